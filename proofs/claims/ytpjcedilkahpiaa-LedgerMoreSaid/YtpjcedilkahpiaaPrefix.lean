/- Package ledger: Prefix, and the document's own. -/
import Derived.Test.YtpjcedilkahpiaaLedEnt
namespace Go.Proofs.Ytpjcedilkahpiaa
open Go.RowKit
set_option linter.unusedSimpArgs false

/-- Is the shorter one the beginning of the other one? -/
def preS (a b : List En) : Bool := sameL (a.take (min a.length b.length)) (b.take (min a.length b.length))
theorem preS_comm (a b : List En) : preS a b = preS b a := by
  unfold preS sameL
  rw [Nat.min_comm]
  exact decide_eq_decide.2 eq_comm
theorem preS_take (a : List En) (k : Nat) : preS a (a.take k) = true := by
  unfold preS sameL
  refine decide_eq_true ?_
  rw [List.length_take, List.take_take]
  congr 1
  omega
theorem preS_le {a b : List En} {k : Nat} (hk : k = min a.length b.length) (h : a.take k = b.take k) : preS a b = true := by
  subst hk
  exact decide_eq_true h
theorem preS_no {a b : List En} {k : Nat} (h1 : k < a.length) (h2 : k < b.length) (h : a[k] ≠ b[k]) : preS a b = false := by
  refine decide_eq_false fun e => h ?_
  have e1 := congrArg (fun l => l[k]?) e
  simp only [List.getElem?_take] at e1
  rw [if_pos (by omega), if_pos (by omega), List.getElem?_eq_getElem h1, List.getElem?_eq_getElem h2] at e1
  exact Option.some.inj e1
set_option maxRecDepth 100000 in
set_option maxHeartbeats 1000000 in
theorem pre_any {w : World} {A A' : Option Addr} {c c' n n' B B' : Nat} {a b : List En} (h1 : Has w B A (entCells a)) (h2 : Has w B' A' (entCells b)) (hn : a.length = n) (hn' : b.length = n') (hc : n ≤ c) (hc' : n' ≤ c') (hm : n ≤ 1000000) (hm' : n' ≤ 1000000) :
    Calls Try.prog 25 #[.slice A n c, .slice A' n' c'] w fun e w' => e = .returned (.bool (preS a b)) ∧ ∃ nq, w' = w.drewN nq := by
  obtain ⟨m, hmm⟩ : ∃ m, min n n' = m := ⟨_, rfl⟩
  have hl1 : (a.take m).length = m := by rw [List.length_take]; omega
  have hl2 : (b.take m).length = m := by rw [List.length_take]; omega
  have HE := Lib.hid (fun q => ent_equal A A' c c' (a.take m) (b.take m) B B' (w.drewN q) (by omega) ((h1.drewN q).ents_take m) ((h2.drewN q).ents_take m) |>.mono (R' := fun e w' => e = .returned (.bool (sameL (a.take m) (b.take m))) ∧ ∃ n, w' = w.drewN n) (fun e w' ⟨he, k, hw⟩ => ⟨he, _, hw.trans (World.drewN_drewN _ _ _)⟩))
  have hp : preS a b = sameL (a.take m) (b.take m) := by unfold preS; rw [hn, hn', hmm]
  rw [hl1, hl2] at HE
  rw [hp]
  clear h1 h2 hl1 hl2 hp hn hn'
  rcases Nat.lt_or_ge n' n with h | h
  · obtain rfl : n' = m := by omega
    have g1 : (n' : Int) < (n : Int) := by omega
    have g2 : n' ≤ c := by omega
    have g3 : (n' : Int) ≤ (c' : Int) := by omega
    have g4 : (n' : Int) ≤ (c : Int) := by omega
    go_enter Try.func25, Try.ntmps25
    go_wp2_with fail
    go_quiet ((go_at_call 40; exact HE.out _))
    go_wp2_with fail
    go_ret
    exact ⟨rfl, _, rfl⟩
  · obtain rfl : n = m := by omega
    have g1 : ¬ (n' : Int) < (n : Int) := by omega
    have g2 : n ≤ c' := by omega
    have g3 : (n : Int) ≤ (c' : Int) := by omega
    have g4 : (n : Int) ≤ (c : Int) := by omega
    go_enter Try.func25, Try.ntmps25
    go_wp2_with fail
    go_quiet ((go_at_call 40; exact HE.out _))
    go_wp2_with fail
    go_ret
    exact ⟨rfl, _, rfl⟩
set_option maxRecDepth 100000 in
set_option maxHeartbeats 1000000 in
theorem rpre_any {w : World} {A A' : Option Addr} {c c' n n' B B' : Nat} {a b : List En} (h1 : Has w B A (entCells a)) (h2 : Has w B' A' (entCells b)) (hn : a.length = n) (hn' : b.length = n') (hm : n ≤ 1000000) :
    Calls Try.prog 30 #[.slice A n c, .slice A' n' c'] w fun e w' => e = .returned (.bool (preS a b)) ∧ ∃ nq, w' = w.drewN nq := by
  have H1 := Lib.hid h1
  have H2 := Lib.hid h2
  have HN := Lib.hid hn
  have HN' := Lib.hid hn'
  clear h1 h2 hn hn'
  go_enter Try.func30, Try.ntmps30
  go_wp2_with fail
  go_loopw [5] (fun x wr => ∃ (k nq : Nat), x = .int .i64 k ∧ k ≤ n ∧ k ≤ n' ∧ wr = w.drewN nq ∧ Hid (a.take k = b.take k)) (fun x _ => n - (intOf x).toNat)
  case atStart => exact ⟨0, 0, rfl, Nat.zero_le _, Nat.zero_le _, rfl, Lib.hid rfl⟩
  case round =>
    obtain ⟨k, nq, rfl, hk, hk', rfl, HT⟩ := hrel
    by_cases hlt : k < n
    · by_cases hlt' : k < n'
      · have hka : k < a.length := by rw [HN.out]; exact hlt
        have hkb : k < b.length := by rw [HN'.out]; exact hlt'
        obtain ⟨a1, rfl, _, c0, c1, c2, c3, c4, c5, c6⟩ := H1.out.ent hka
        obtain ⟨a2, rfl, _, d0, d1, d2, d3, d4, d5, d6⟩ := H2.out.ent hkb
        obtain ⟨x, hx⟩ : ∃ x, a[k] = x := ⟨_, rfl⟩
        obtain ⟨y, hy⟩ : ∃ y, b[k] = y := ⟨_, rfl⟩
        rw [hx] at c0 c1 c2 c3 c4 c5 c6
        rw [hy] at d0 d1 d2 d3 d4 d5 d6
        have HX := Lib.hid hx
        have HY := Lib.hid hy
        clear hx hy
        have G := fun (w : World) => guard_ent .neq (.tmp 21) (.tmp 25) #[.int .i64 x.r.cl, .int .i64 x.r.tm, .int .i64 x.r.kd, .int .i64 x.r.ky, .int .i64 x.r.vl, .int .i64 x.r.sg, .int .i64 x.x] #[.int .i64 y.r.cl, .int .i64 y.r.tm, .int .i64 y.r.kd, .int .i64 y.r.ky, .int .i64 y.r.vl, .int .i64 y.r.sg, .int .i64 y.x] w
        by_cases hxy : x = y
        · have E := fun (w : World) => neq_ent (x := x) (y := y) (r := false) (by simp [hxy]) w
          have HT2 := Lib.hid (takeL_next hka hkb HT.out (HX.out.trans (hxy.trans HY.out.symm)))
          clear hxy
          go_wp2_with fail
          go_quiet (fail)
          clear E G
          go_wp2_with fail
          go_roundw
          case rel => exact ⟨k + 1, _, by go_num, by omega, by omega, rfl, HT2⟩
          case measure => simp [intOf]; omega
        · have E := fun (w : World) => neq_ent (x := x) (y := y) (r := true) (by simp [hxy]) w
          have HS := Lib.hid (preS_no hka hkb (by rw [HX.out, HY.out]; exact hxy))
          clear hxy
          go_wp2_with fail
          go_quiet (fail)
          clear E G
          go_wp2_with fail
          go_ret
          exact ⟨by rw [HS.out]; rfl, ⟨_, World.drewN_drewN _ _ _⟩⟩
      · have HS := Lib.hid (preS_le (k := k) (by rw [HN.out, HN'.out]; omega) HT.out)
        go_wp2_with fail
        go_ret
        exact ⟨by rw [HS.out]; rfl, ⟨_, rfl⟩⟩
    · have HS := Lib.hid (preS_le (k := k) (by rw [HN.out, HN'.out]; omega) HT.out)
      go_wp2_with fail
      go_ret
      exact ⟨by rw [HS.out]; rfl, ⟨_, rfl⟩⟩
end Go.Proofs.Ytpjcedilkahpiaa
