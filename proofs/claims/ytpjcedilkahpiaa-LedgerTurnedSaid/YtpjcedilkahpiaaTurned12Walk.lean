/- The walk of LedgerTurned. -/
import Derived.Test.YtpjcedilkahpiaaPrefix
import Derived.Test.YtpjcedilkahpiaaOpen12
import Derived.Test.YtpjcedilkahpiaaLedger2
namespace Go.Proofs.Ytpjcedilkahpiaa
open Go.RowKit
set_option linter.unusedSimpArgs false

theorem ents_set {l : List En} {k : Nat} (h : k < l.length) (y : Int) : (entCells l).take (k * 7 + 6) ++ [.int .i64 y] ++ (entCells l).drop (k * 7 + 6 + 1) = entCells (l.set k ⟨l[k].r, y⟩) := by
  induction l generalizing k with
  | nil => simp at h
  | cons e l ih =>
    cases k with
    | zero => rfl
    | succ k =>
      have := ih (k := k) (by simpa using h)
      show (e.cells ++ entCells l).take ((k + 1) * 7 + 6) ++ _ ++ (e.cells ++ entCells l).drop ((k + 1) * 7 + 6 + 1) = e.cells ++ entCells (l.set k ⟨(l[k]'(by simpa using h)).r, y⟩)
      have h7 : e.cells.length = 7 := rfl
      rw [← this, show (k + 1) * 7 + 6 = 7 + (k * 7 + 6) by omega, show 7 + (k * 7 + 6) + 1 = 7 + (k * 7 + 6 + 1) by omega, ← h7, List.take_length_add_append, List.drop_length_add_append]
      simp
theorem preS_turned {a : List En} {i k : Nat} (hi : i < a.length) (hk : k ≤ a.length) {e : En} (he : e ≠ a[i]) : preS a ((a.set i e).take k) = decide (k ≤ i) := by
  by_cases h : k ≤ i
  · rw [decide_eq_true h]
    have : (a.set i e).take k = a.take k := by
      apply List.ext_getElem?
      intro j
      simp only [List.getElem?_take]
      split
      · rw [List.getElem?_set_ne (by omega)]
      · rfl
    rw [this]
    exact preS_take a k
  · rw [decide_eq_false h]
    have h2 : i < ((a.set i e).take k).length := by rw [List.length_take, List.length_set]; omega
    refine preS_no hi h2 ?_
    rw [List.getElem_take, List.getElem_set_self]
    exact he.symm
theorem wrap_next {x : Int} (hx : fit x) : ∃ y, IntKind.i64.wrap (x + 1) = y ∧ wrap64 (x + 1) = y ∧ y ≠ x := by
  obtain ⟨h1, h2⟩ := wf_i64 hx
  by_cases h : x = 9223372036854775807
  · subst h
    exact ⟨-9223372036854775808, rfl, by unfold wrap64; omega, by omega⟩
  · exact ⟨x + 1, IntWalk.i64_in _ ⟨by omega, by omega⟩, IntWalk.wrap64_in _ ⟨by omega, by omega⟩, by omega⟩
set_option maxRecDepth 100000 in
set_option maxHeartbeats 4000000 in
theorem ledgerTurned_walk (A : Option Addr) (c : Nat) (a : List En) (q : Int) (w : World) (w0 : IsEnts w A a c) (w1 : (Lit.int .i64 q).wf = true) :
    Calls Try.prog 4 #[.slice A a.length c, .int .i64 q] w fun e w' => e = .returned (.bool true) ∧ Below w.heap.size w w' := by
  have HA := Lib.hid w0
  obtain ⟨n, hn⟩ : ∃ n, a.length = n := ⟨_, rfl⟩
  rw [hn]
  have HN := Lib.hid hn
  have HLe := Lib.hid (show n ≤ c from hn ▸ w0.le)
  have HWk := Lib.hid (fun w => wakes12_any w)
  by_cases h0 : n = 0
  · subst h0
    clear w0 w1 hn
    go_enter Try.func4, Try.ntmps4
    go_wp2_with fail
    refine (HWk.out _).mono ?_
    rintro e wv ⟨rfl, hb⟩
    go_wp2_with fail
    go_ret
    exact ⟨rfl, hb⟩
  have g0 : ((n : Int) == 0) = false := by simp; omega
  by_cases h1 : n ≤ 40
  · have g1 : ¬ (40 : Int) < (n : Int) := by omega
    have HW := Lib.hid (fun w => within_any q (n : Int) (by omega) (by omega) (wf_i64 w1).1 (wf_i64 w1).2 w)
    have hk : 0 ≤ q % (n : Int) ∧ q % (n : Int) < (n : Int) := ⟨Int.emod_nonneg _ (by omega), Int.emod_lt_of_pos _ (by omega)⟩
    obtain ⟨i, hi⟩ := Int.eq_ofNat_of_zero_le hk.1
    rw [hi] at HW hk
    have hin : i < n := by omega
    have HC := Lib.hid (mcopy_ents A c n w.heap.size a w hn (by omega) w0.has w0.nil)
    have HF := Lib.hid (fun e (he : e ∈ a) => w0.fits e he)
    clear w0 w1 hn hk hi
    go_enter Try.func4, Try.ntmps4
    go_wp2_with fail
    refine (HW.out _).mono ?_
    rintro e wv ⟨rfl, rfl⟩
    go_wp2_with fail
    refine HC.out.mono ?_
    rintro e w2 ⟨v, rfl, ho, hb⟩
    obtain ⟨A1, c1, rfl, q1, q2⟩ := own_slice ho
    obtain ⟨g, rfl, hg⟩ : ∃ g, A1 = some ⟨g, 0, none⟩ ∧ w.heap.size ≤ g := by
      rcases ho.2 with ⟨e, _⟩ | ⟨g', cap, cur, e, hg, _⟩
      · injection e with e1 e2 e3
        omega
      · injection e with e1
        exact ⟨g', e1, hg⟩
    have hia : i < a.length := by rw [HN.out]; exact hin
    obtain ⟨ad, e, _, _, _, _, _, _, _, hx6⟩ := (has_rows ho).ent hia
    cases e
    rw [addr_at] at hx6
    obtain ⟨x, hx⟩ : ∃ x, a[i].x = x := ⟨_, rfl⟩
    obtain ⟨y, hy1, hy2, hy3⟩ := wrap_next (x := x) (hx ▸ (HF.out _ (List.getElem_mem hia)).x)
    rw [hx] at hx6
    have hf6 := ho.frozenAt (i * 7 + 6)
    have hset := own_cells ho (o := i * 7 + 6) (vs := [.int .i64 y]) (by show i * 7 + 6 + 1 ≤ _; omega)
    rw [show [Value.int .i64 y].length = 1 from rfl, ents_set hia] at hset
    have HO := Lib.hid (show (w2.setCell ⟨g, i * 7 + 6, none⟩ (.int .i64 y)).ownsRow w.heap.size 36 7 (.slice (some ⟨g, 0, none⟩) n c1) n (entCells (a.set i ⟨a[i].r, y⟩)) from hset)
    have HB := Lib.hid (show Below w.heap.size w (w2.setCell ⟨g, i * 7 + 6, none⟩ (.int .i64 y)) from hb.trans ⟨rfl, rfl, rfl, by simp, fun k hk => Below.heap_setCell w2 _ _ k (by show k ≠ g; omega)⟩)
    have HNe := Lib.hid (show (⟨a[i].r, y⟩ : En) ≠ a[i] from fun e => hy3 (by rw [← hx, ← e]))
    have hlb : (a.set i ⟨a[i].r, y⟩).length = n := by rw [List.length_set]; exact HN.out
    have HM := Lib.hid (fun k (hk : k ≤ n) => preS_turned hia (show k ≤ a.length by rw [HN.out]; exact hk) HNe.out)
    obtain ⟨b, hbb⟩ : ∃ b, a.set i ⟨a[i].r, y⟩ = b := ⟨_, rfl⟩
    rw [hbb] at HO HM hlb
    have HLb := Lib.hid hlb
    have HQ := Lib.hid q1
    have hc0 : decide ((i : Int) < (n : Int)) = true := decide_eq_true (by omega)
    clear ho hb hset hx hlb hbb q1 q2 hg
    obtain ⟨w3, hw3⟩ : ∃ w3, w2.setCell ⟨g, i * 7 + 6, none⟩ (.int .i64 y) = w3 := ⟨_, rfl⟩
    have HW3 := Lib.hid hw3
    rw [hw3] at HO HB
    clear hw3
    have P1 := Lib.hid (fun j k (hk : k ≤ n) => (pre_any (w := w3.drewN j) ((HA.out.has.below HB.out (Nat.le_refl _)).drewN j) (((has_rows HO.out).ents_take k).drewN j) HN.out (by rw [List.length_take, HLb.out]; omega) HLe.out (by have := HQ.out; omega : k ≤ c1) (by omega) (by omega)))
    have P2 := Lib.hid (fun j k (hk : k ≤ n) => (pre_any (w := w3.drewN j) (((has_rows HO.out).ents_take k).drewN j) ((HA.out.has.below HB.out (Nat.le_refl _)).drewN j) (by rw [List.length_take, HLb.out]; omega) HN.out (by have := HQ.out; omega : k ≤ c1) HLe.out (by omega) (by omega)))
    have P3 := Lib.hid (fun j => (pre_any (w := w3.drewN j) (b := []) (c' := 0) (n' := 0) (B' := 0) (A' := none) ((HA.out.has.below HB.out (Nat.le_refl _)).drewN j) (Has.nil _ _ _) HN.out rfl HLe.out (Nat.le_refl _) (by omega) (by omega)))
    go_upto_region 6 with fail
    rw [HW3.out]
    clear hx6 hf6
    go_wp2_with fail
    go_loopw [7] (fun x wr => ∃ (k j : Nat), x = .int .i64 k ∧ k ≤ n + 1 ∧ wr = w3.drewN j) (fun x _ => n + 1 - (intOf x).toNat)
    case atStart => exact ⟨0, 0, rfl, Nat.zero_le _, rfl⟩
    case round =>
      obtain ⟨k, j, rfl, hk, rfl⟩ := hrel
      by_cases hlt : k ≤ n
      · have K1 := Lib.hid (P1.out j k hlt)
        have K2 := Lib.hid (fun j => P2.out j k hlt)
        have hm := HM.out k hlt
        rw [hm] at K1
        rw [preS_comm, hm] at K2
        have hkc : k ≤ c1 := by have := HQ.out; omega
        clear hm
        by_cases hki : k ≤ i
        · rw [decide_eq_true hki] at K1 K2
          go_wp2_with fail
          refine K1.out.mono ?_
          rintro e wv ⟨rfl, j1, hj1⟩
          obtain ⟨i1, hi1⟩ : ∃ i, wv = w3.drewN i := ⟨_, hj1.trans (World.drewN_drewN _ _ _)⟩
          subst hi1
          clear hj1
          go_wp2_with fail
          refine (K2.out i1).mono ?_
          rintro e wv ⟨rfl, j2, hj2⟩
          obtain ⟨i2, hi2⟩ : ∃ i, wv = w3.drewN i := ⟨_, hj2.trans (World.drewN_drewN _ _ _)⟩
          subst hi2
          clear hj2
          go_wp2_with fail
          go_roundw
          case rel => exact ⟨k + 1, _, by go_num, by omega, rfl⟩
          case measure => simp [intOf]; omega
        · rw [decide_eq_false hki] at K1 K2
          go_wp2_with fail
          refine K1.out.mono ?_
          rintro e wv ⟨rfl, j1, hj1⟩
          obtain ⟨i1, hi1⟩ : ∃ i, wv = w3.drewN i := ⟨_, hj1.trans (World.drewN_drewN _ _ _)⟩
          subst hi1
          clear hj1
          go_wp2_with fail
          refine (K2.out i1).mono ?_
          rintro e wv ⟨rfl, j2, hj2⟩
          obtain ⟨i2, hi2⟩ : ∃ i, wv = w3.drewN i := ⟨_, hj2.trans (World.drewN_drewN _ _ _)⟩
          subst hi2
          clear hj2
          go_wp2_with fail
          go_roundw
          case rel => exact ⟨k + 1, _, by go_num, by omega, rfl⟩
          case measure => simp [intOf]; omega
      · have K3 := Lib.hid (P3.out j)
        rw [show ([] : List En) = a.take 0 from rfl, preS_take] at K3
        go_wp2_with fail
        refine K3.out.mono ?_
        rintro e wv ⟨rfl, j1, rfl⟩
        go_wp2_with fail
        refine (HWk.out _).mono ?_
        rintro e wv ⟨rfl, hb⟩
        go_wp2_with fail
        go_ret
        exact ⟨rfl, (below_drewN HB.out (j + j1)).trans (hb.mono (by have := HB.out.size; simpa using this))⟩
  · have g1 : (40 : Int) < (n : Int) := by omega
    clear w0 w1 hn
    go_enter Try.func4, Try.ntmps4
    go_wp2_with fail
    refine (HWk.out _).mono ?_
    rintro e wv ⟨rfl, hb⟩
    go_wp2_with fail
    go_ret
    exact ⟨rfl, hb⟩
end Go.Proofs.Ytpjcedilkahpiaa
