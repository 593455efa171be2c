/- The contracts of reqs.Same and reqs.Has, over slices.Equal, slices.Index, slices.Contains at requests. -/
import Derived.Test.YthlmalangjgioaaRefRows
namespace Go.Proofs.Ythlmalangjgioaa
open Go.RowKit

set_option maxHeartbeats 400000 in
theorem rq_equal (A A' : Option Addr) (c c' : Nat) (zs ys : List Rq) (B B' : Nat) (w : World) (hl : zs.length ≤ 9223372036854775806) (h1 : Has w B A (reqCells zs)) (h2 : Has w B' A' (reqCells ys)) :
    Calls Try.prog 40 #[.slice A zs.length c, .slice A' ys.length c'] w fun e w' => e = .returned (.bool (sameL zs ys)) ∧ ∃ nq, w' = w.drewN nq := by
  have H1 := Lib.hid h1
  have H2 := Lib.hid h2
  clear h1 h2
  by_cases hlen : zs.length = ys.length
  · have HL := Lib.hid hlen
    go_enter Try.func40, Try.ntmps40
    go_wp2
    clear hlen
    go_loopw [13] (fun x wr => ∃ (k nq : Nat), x = .int .i64 k ∧ k ≤ zs.length ∧ wr = w.drewN nq ∧ Hid (zs.take k = ys.take k)) (fun x _ => zs.length - (intOf x).toNat)
    case atStart => exact ⟨0, 0, rfl, Nat.zero_le _, rfl, rfl⟩
    case round =>
      obtain ⟨k, nq, rfl, hk, rfl, HT⟩ := hrel
      by_cases hlt : k < zs.length
      · have hlt2 : k < ys.length := by rw [← HL.out]; exact hlt
        obtain ⟨a1, rfl, _, c0, c1, c2, c3, c4, c5⟩ := H1.out.req hlt
        obtain ⟨a2, rfl, _, d0, d1, d2, d3, d4, d5⟩ := H2.out.req hlt2
        obtain ⟨x, hx⟩ : ∃ x, zs[k] = x := ⟨_, rfl⟩
        obtain ⟨y, hy⟩ : ∃ y, ys[k] = y := ⟨_, rfl⟩
        rw [hx] at c0 c1 c2 c3 c4 c5
        rw [hy] at d0 d1 d2 d3 d4 d5
        have HX := Lib.hid hx
        have HY := Lib.hid hy
        clear hx hy
        have G := fun (w : World) => guard_req .neq (.tmp 19) (.tmp 23) #[.int .i64 x.cl, .int .i64 x.tm, .int .i64 x.kd, .int .i64 x.ky, .int .i64 x.vl, .int .i64 x.sg] #[.int .i64 y.cl, .int .i64 y.tm, .int .i64 y.kd, .int .i64 y.ky, .int .i64 y.vl, .int .i64 y.sg] w
        by_cases hxy : x = y
        · have E := fun (w : World) => neq_req (x := x) (y := y) (r := false) (by simp [hxy]) w
          have HT2 := Lib.hid (takeL_next hlt hlt2 HT.out (HX.out.trans (hxy.trans HY.out.symm)))
          clear hxy
          go_wp2
          go_quiet (fail)
          clear E G
          go_wp2
          go_roundw
          case rel => exact ⟨k + 1, _, by go_num, by omega, rfl, HT2.out⟩
          case measure => simp [intOf]; omega
        · have E := fun (w : World) => neq_req (x := x) (y := y) (r := true) (by simp [hxy]) w
          have HS := Lib.hid (sameL_far hlt hlt2 (by rw [HX.out, HY.out]; exact hxy))
          clear hxy
          go_wp2
          go_quiet (fail)
          clear E G
          go_wp2
          go_ret
          exact ⟨by rw [HS.out]; rfl, ⟨_, World.drewN_drewN _ _ _⟩⟩
      · have HS := Lib.hid (sameL_end (by omega : zs.length ≤ k) HT.out HL.out)
        have hlt2 : ¬ k < ys.length := by rw [← HL.out]; exact hlt
        go_wp2
        go_ret
        exact ⟨by rw [HS.out]; rfl, ⟨_, rfl⟩⟩
  · have HS := Lib.hid (sameL_len hlen)
    have hb : decide (zs.length = ys.length) = false := by simpa using hlen
    have hb2 : ((zs.length : Int) != ys.length) = true := by simp; omega
    go_enter Try.func40, Try.ntmps40
    go_wp2
    go_ret
    exact ⟨by rw [HS.out]; rfl, ⟨0, rfl⟩⟩
theorem rq_same {A A' : Option Addr} {c c' n n' B B' : Nat} {zs ys : List Rq} {w : World} (h1 : Has w B A (reqCells zs)) (hn : zs.length = n) (hl : n ≤ 1000000) (h2 : Has w B' A' (reqCells ys)) (hn' : ys.length = n') :
    Calls Try.prog 36 #[.slice A n c, .slice A' n' c'] w fun e w' => e = .returned (.bool (sameL zs ys)) ∧ Below w.heap.size w w' := by
  have HC := Lib.hid (rq_equal A A' c c' zs ys B B' w (by omega) h1 h2)
  rw [hn, hn'] at HC
  clear h1 h2 hn hn' hl
  go_enter Try.func36, Try.ntmps36
  go_wp2_with fail
  refine HC.out.mono ?_
  rintro e w2 ⟨rfl, m, rfl⟩
  go_wp2_with fail
  go_ret
  exact ⟨rfl, rfl, rfl, rfl, Nat.le_refl _, fun _ _ => rfl⟩

/-- The place of a request in a list, or -1. -/
def placeS (l : List Rq) (r : Rq) (x : Int) : Prop := (x = -1 ∧ r ∉ l) ∨ (0 ≤ x ∧ r ∈ l)
theorem placeS_yes {l : List Rq} {r : Rq} {k : Nat} (h : k < l.length) (e : l[k] = r) : placeS l r k := Or.inr ⟨by omega, e ▸ List.getElem_mem h⟩
theorem placeS_no {l : List Rq} {r : Rq} {k : Nat} (h : l.length ≤ k) (hn : r ∉ l.take k) : placeS l r (-1) := Or.inl ⟨rfl, by rwa [List.take_of_length_le h] at hn⟩
theorem placeS_has {l : List Rq} {r : Rq} {x : Int} (h : placeS l r x) : decide (0 ≤ x) = hasB l r := by
  unfold hasB
  rcases h with ⟨rfl, h⟩ | ⟨h1, h2⟩
  · rw [decide_eq_false h]; rfl
  · rw [decide_eq_true h2]; exact decide_eq_true h1
end Go.Proofs.Ythlmalangjgioaa
