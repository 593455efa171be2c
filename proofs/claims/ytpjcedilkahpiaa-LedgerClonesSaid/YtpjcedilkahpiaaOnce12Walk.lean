/- The walk of LedgerOnce. -/
import Derived.Test.YtpjcedilkahpiaaFold12
import Derived.Test.YtpjcedilkahpiaaLedger2
namespace Go.Proofs.Ytpjcedilkahpiaa
open Go.RowKit
set_option linter.unusedSimpArgs false

/-- The clients' times, as the law keeps them. -/
def tmC (L : List (Int × Int)) : Array Value := #[.int .i64 (atL L 0).1, .int .i64 (atL L 1).1, .int .i64 (atL L 2).1, .int .i64 (atL L 3).1]
theorem tmC_at (L : List (Int × Int)) {i : Nat} (h : i < 4) : (tmC L)[i]? = some (.int .i64 (atL L i).1) := by
  have : i = 0 ∨ i = 1 ∨ i = 2 ∨ i = 3 := by omega
  rcases this with rfl | rfl | rfl | rfl <;> rfl
theorem tmC_set {L M : List (Int × Int)} {i : Nat} (h : i < 4) {t r : Int} (hM : ∀ j : Int, atL M j = if j = (i : Int) then (t, r) else atL L j) : (tmC L).setIfInBounds i (.int .i64 t) = tmC M := by
  have : i = 0 ∨ i = 1 ∨ i = 2 ∨ i = 3 := by omega
  unfold tmC
  rw [hM 0, hM 1, hM 2, hM 3]
  rcases this with rfl | rfl | rfl | rfl <;> rfl
theorem atL_new (n : Nat) (j : Int) : atL (List.replicate n (0, 0)) j = (0, 0) := by
  unfold atL
  by_cases h : 0 ≤ j
  · rw [if_pos h, List.getD_eq_getElem?_getD, List.getElem?_replicate]
    split <;> rfl
  · rw [if_neg h]
theorem tmC_new (n : Nat) : tmC (Sc.new n).2 = #[.int .i64 0, .int .i64 0, .int .i64 0, .int .i64 0] := by
  unfold tmC Sc.new
  rw [atL_new, atL_new, atL_new, atL_new]
/-- What a ledger holds behind its first entries. -/
def Sc.upto (s : Sc) (b : List Rq) (k : Nat) : Sc := s.run (((s.ran b).map En.r).take k)
theorem Sc.upto_next {s : Sc} {b : List Rq} {k : Nat} (hk : k < (s.ran b).length) : s.upto b (k + 1) = (s.upto b k).done (s.ran b)[k].r := by
  have h1 : k < ((s.ran b).map En.r).length := by rw [List.length_map]; exact hk
  unfold Sc.upto
  rw [Sc.run_take h1, List.getElem_map, Sc.step_yes (Sc.entry b s (List.getElem?_eq_getElem hk)).1]
theorem Sc.upto_is {s : Sc} {b : List Rq} {k : Nat} (hk : k < (s.ran b).length) : (s.upto b k).is (s.ran b)[k].r = true := (Sc.entry b s (List.getElem?_eq_getElem hk)).1
theorem Sc.upto_len (s : Sc) (b : List Rq) (k : Nat) : (s.upto b k).2.length = s.2.length := Sc.run_len _ _
theorem Sc.new_len (n : Nat) : (Sc.new n).2.length = n := List.length_replicate
/-- Numbers of clients, as the laws make them. -/
theorem clients_of {a : Int} (h : fit a) : ∃ n : Nat, 1 ≤ n ∧ n ≤ 4 ∧ (∀ w, Calls Try.prog 12 #[.int .i64 a, .int .i64 4] w fun e w' => e = .returned (.int .i64 ((n : Int) - 1)) ∧ w = w') ∧ wrap64 (1 + ((n : Int) - 1)) = (n : Int) ∧ IntKind.i64.wrap (1 + ((n : Int) - 1)) = (n : Int) := by
  have h0 : 0 ≤ a % 4 ∧ a % 4 < 4 := ⟨Int.emod_nonneg _ (by omega), Int.emod_lt_of_pos _ (by omega)⟩
  refine ⟨(a % 4).toNat + 1, by omega, by omega, fun w => ?_, ?_, ?_⟩
  · have := within_any a 4 (by omega) (by omega) (wf_i64 h).1 (wf_i64 h).2 w
    rw [show (((a % 4).toNat + 1 : Nat) : Int) - 1 = a % 4 by omega]
    exact this
  · rw [IntWalk.wrap64_in _ ⟨by omega, by omega⟩]; omega
  · rw [IntWalk.i64_in _ ⟨by omega, by omega⟩]; omega
/-- While the entries are gone through. -/
structure ROnce (w : World) (H : Nat) (s : Sc) (l : List Rq) (w2 : World) (k : Nat) (wr : World) : Prop where
  blk : Blk wr H 57 (tmC (s.upto l k).2)
  tn : Turn (fun j => j = H) w2 wr
  low : Below w.heap.size w wr
set_option maxRecDepth 100000 in
set_option maxHeartbeats 4000000 in
theorem ledgerOnce_walk (a : Int) (A : Option Addr) (c : Nat) (l : List Bt) (w : World) (w0 : (Lit.int .i64 a).wf = true) (w1 : IsBats w A l c) :
    Calls Try.prog 9 #[.int .i64 a, .slice A l.length c] w fun e w' => e = .returned (.bool true) ∧ Below w.heap.size w w' := by
  obtain ⟨n, hn1, hn4, hW, hwr, hw6⟩ := clients_of w0
  have HW := Lib.hid hW
  have HC := Lib.hid (cutfold hn1 hn4 w1 w (Below.refl _ _))
  have HN4 := Lib.hid (And.intro hn1 hn4)
  have HNl := Lib.hid (allS_cut_len l)
  obtain ⟨Q, hQ⟩ : ∃ Q, allS (cutS l) = Q := ⟨_, rfl⟩
  obtain ⟨p, hp⟩ : ∃ p, (cutS l).length = p := ⟨_, rfl⟩
  rw [hQ, hp] at HC
  rw [hQ] at HNl
  clear w0 w1 hW hQ hp hn1 hn4
  go_enter Try.func9, Try.ntmps9
  go_wp2_with fail
  refine (HW.out _).mono ?_
  rintro e wv ⟨rfl, rfl⟩
  go_wp2_with fail
  refine HC.out.mono ?_
  rintro e w2 ⟨A1, c1, rfl, _, hb, hF⟩
  have HB := Lib.hid hb
  have HF := Lib.hid hF
  clear hb hF HC
  go_wp2_with fail
  refine HF.out.mono ?_
  rintro e w3 ⟨b, rfl, hl, hbN⟩
  have HL := Lib.hid (hl.base HB.out)
  have HBN := Lib.hid hbN
  clear hl hbN HF
  have hb4 : Below w3.heap.size w3 (w3.alloc (.cells #[.int .i64 0, .int .i64 0, .int .i64 0, .int .i64 0] 57)) := (Below.refl _ _).alloc (Nat.le_refl _) _
  have hk4 := Blk.new w3 57 #[.int .i64 0, .int .i64 0, .int .i64 0, .int .i64 0]
  obtain ⟨w4, hw4⟩ : ∃ w4, w3.alloc (.cells #[.int .i64 0, .int .i64 0, .int .i64 0, .int .i64 0] 57) = w4 := ⟨_, rfl⟩
  rw [hw4] at hb4 hk4
  have HL4 := Lib.hid (HL.out.below hb4)
  have HK4 := Lib.hid hk4
  have HW4 := Lib.hid hw4
  have HHm := Lib.hid (show w.heap.size ≤ w3.heap.size from HL.out.low.size)
  obtain ⟨H, hH⟩ : ∃ H, w3.heap.size = H := ⟨_, rfl⟩
  rw [hH] at HK4 HHm
  have HHh := Lib.hid hH
  have HA := Lib.hid (lall_any HL4.out.lg (by have := HBN.out; omega))
  clear hb4 hk4 hw4 hH HL
  go_upto_region 6 with fail
  rw [HW4.out, HHh.out]
  go_wp2_with fail
  refine HA.out.mono ?_
  rintro e w5 ⟨v, rfl, ho, hb5⟩
  obtain ⟨A2, c2, rfl, -, -⟩ := own_slice ho
  have HE := Lib.hid (has_rows ho)
  have HOff := Lib.hid (show ∀ ad, A2 = some ad → H < ad.block from fun ad e => by
    have h1 := ho.lt ad.block (by
      rcases ho.2 with ⟨e2, _⟩ | ⟨g', cap, cur, e2, hg, _⟩
      · rw [e] at e2; injection e2 with e3; cases e3
      · rw [e2]
        injection e2 with e3
        rw [e] at e3
        injection e3 with e3
        rw [e3]; rfl)
    have := HK4.out.lt
    omega)
  have HS0 := Lib.hid (show ROnce w H (Sc.new n) Q w5 0 w5 from ⟨by rw [show (Sc.new n).upto Q 0 = Sc.new n from rfl, tmC_new]; exact Blk.below HK4.out hb5 HK4.out.lt, Turn.refl _ _, HL4.out.low.trans (hb5.mono HL4.out.low.size)⟩)
  obtain ⟨m, hm⟩ : ∃ m, ((Sc.new n).ran Q).length = m := ⟨_, rfl⟩
  rw [hm]
  have HM := Lib.hid hm
  have hmm : m ≤ 160 := by have := HNl.out; have := Sc.ran_len Q (Sc.new n); omega
  clear ho hb5 HA hm
  go_wp2_with fail
  go_loopw [31] (fun x wr => ∃ k : Nat, x = .int .i64 k ∧ k ≤ m ∧ Hid (ROnce w H (Sc.new n) Q w5 k wr)) (fun x _ => m - (intOf x).toNat)
  case atStart => exact ⟨0, rfl, Nat.zero_le _, HS0⟩
  case round =>
    obtain ⟨k, rfl, hk, HS⟩ := hrel
    by_cases hlt : k < m
    · have hkl : k < ((Sc.new n).ran Q).length := by rw [HM.out]; exact hlt
      have hE := has_apart HE.out HS.out.tn (fun ad e _ hz => by have := HOff.out ad e; omega)
      obtain ⟨ad, rfl, _, c0, d1, _⟩ := hE.ent hkl
      obtain ⟨x, hx⟩ : ∃ x, ((Sc.new n).ran Q)[k] = x := ⟨_, rfl⟩
      have his := Sc.upto_is hkl
      have hnx := Sc.upto_next hkl
      rw [hx] at c0 d1 his hnx
      obtain ⟨⟨i1, i2⟩, i3⟩ := Sc.is_true his
      rw [Sc.upto_len, Sc.new_len] at i2
      have hat := fun j => Sc.done_at (s := (Sc.new n).upto Q k) (r := x.r) his j
      obtain ⟨q, hq⟩ := Int.eq_ofNat_of_zero_le i1
      rw [hq] at i2 i3 c0 hat
      have hq4 : q < 4 := by have := HN4.out; omega
      have t0 := fun j => (show (wr.drewN j).cell? ⟨H, q, none⟩ = _ from ((HS.out.blk.drewN j).cell q).trans (tmC_at _ hq4))
      obtain ⟨t, ht⟩ : ∃ t, (atL ((Sc.new n).upto Q k).2 (q : Int)).1 = t := ⟨_, rfl⟩
      rw [ht] at t0 i3
      have g1 : decide ((q : Int) < 0) = false := decide_eq_false (by omega)
      have g2 : decide ((q : Int) ≥ (n : Int)) = false := decide_eq_false (by omega)
      have g3 : decide (x.r.tm ≤ t) = false := decide_eq_false (by omega)
      have hset := (HS.out.blk.set_ q (.int .i64 x.r.tm))
      rw [tmC_set hq4 (fun j => by rw [hat j]), ← hnx] at hset
      have e1 := fun j => (show (wr.drewN j).cell? ⟨(ad.add (k * 7)).block, (ad.add (k * 7)).off + 1, none⟩ = some (.int .i64 x.r.tm) from d1)
      have hfz := HS.out.blk.frozen q
      have hTs := (HS.out.tn).set_ ⟨H, q, none⟩ (.int .i64 x.r.tm) rfl
      have hLs : Below w.heap.size w (wr.setCell ⟨H, q, none⟩ (.int .i64 x.r.tm)) := HS.out.low.trans ⟨rfl, rfl, rfl, by simp, fun j hj => Below.heap_setCell wr _ _ j (by show j ≠ H; have := HHm.out; have := HS.out.low.size; omega)⟩
      have d1' : wr.cell? ⟨(ad.add (k * 7)).block, (ad.add (k * 7)).off + 1, none⟩ = some (.int .i64 x.r.tm) := d1
      have HT := Lib.hid hTs
      have HLs := Lib.hid hLs
      have HSt := Lib.hid hset
      have f1 := fun j => (show (wr.drewN j).frozen? ⟨H, q, none⟩ = false from (HS.out.blk.drewN j).frozen q)
      have hTd := fun j => Lib.hid (show ROnce w H (Sc.new n) Q w5 (k + 1) ((wr.drewN j).setCell ⟨H, q, none⟩ (.int .i64 x.r.tm)) from
        ⟨(by have := (HS.out.blk.drewN j).set_ q (.int .i64 x.r.tm); rwa [tmC_set hq4 (fun j => by rw [hat j]), ← hnx] at this), (HS.out.tn.drewN j).set_ _ _ rfl,
          (below_drewN HS.out.low j).trans ⟨rfl, rfl, rfl, by simp, fun i hi => Below.heap_setCell (wr.drewN j) _ _ i (by show i ≠ H; have := HHm.out; have := HS.out.low.size; have hi : i < w.heap.size := hi; omega)⟩⟩)
      have HTd := Lib.hid hTd
      clear hset hTs hLs his hnx hat hTd i1 hq hx hE
      go_wp2_with fail
      have gq : decide (n ≤ q) = false := decide_eq_false (by omega)
      have gq2 : decide (x.r.tm ≤ t) = false := decide_eq_false (by omega)
      go_big_quiet (fail)
      clear gq gq2
      go_wp2_with fail
      go_roundw
      case rel => exact ⟨k + 1, by go_num, by omega, HTd.out _⟩
      case measure => simp [intOf]; omega
    · go_wp2_with fail
      refine (wakes12_any _).mono ?_
      rintro e w9 ⟨rfl, hb9⟩
      go_wp2_with fail
      go_ret
      exact ⟨rfl, HS.out.low.trans (hb9.mono HS.out.low.size)⟩
end Go.Proofs.Ytpjcedilkahpiaa
