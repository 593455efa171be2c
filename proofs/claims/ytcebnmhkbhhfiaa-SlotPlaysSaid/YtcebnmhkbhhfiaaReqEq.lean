/- The contracts of reqs.Same and reqs.Has, over slices.Equal, slices.Index, slices.Contains at requests. -/
import Derived.Test.YtcebnmhkbhhfiaaRefRows
namespace Go.Proofs.Ytcebnmhkbhhfiaa
open Go.RowKit

set_option maxHeartbeats 400000 in
theorem rq_equal (A A' : Option Addr) (c c' : Nat) (zs ys : List Rq) (B B' : Nat) (w : World) (hl : zs.length ≤ 9223372036854775806) (h1 : Has w B A (reqCells zs)) (h2 : Has w B' A' (reqCells ys)) :
    Calls Try.prog 80 #[.slice A zs.length c, .slice A' ys.length c'] w fun e w' => e = .returned (.bool (sameL zs ys)) ∧ ∃ nq, w' = w.drewN nq := by
  have H1 := Lib.hid h1
  have H2 := Lib.hid h2
  clear h1 h2
  by_cases hlen : zs.length = ys.length
  · have HL := Lib.hid hlen
    go_enter Try.func80, Try.ntmps80
    go_wp2
    clear hlen
    go_loopw [13] (fun x wr => ∃ (k nq : Nat), x = .int .i64 k ∧ k ≤ zs.length ∧ wr = w.drewN nq ∧ Hid (zs.take k = ys.take k)) (fun x _ => zs.length - (intOf x).toNat)
    case atStart => exact ⟨0, 0, rfl, Nat.zero_le _, rfl, rfl⟩
    case round =>
      obtain ⟨k, nq, rfl, hk, rfl, HT⟩ := hrel
      by_cases hlt : k < zs.length
      · have hlt2 : k < ys.length := by rw [← HL.out]; exact hlt
        obtain ⟨a1, rfl, _, c0, c1, c2, c3, c4, c5⟩ := H1.out.req hlt
        obtain ⟨a2, rfl, _, d0, d1, d2, d3, d4, d5⟩ := H2.out.req hlt2
        obtain ⟨x, hx⟩ : ∃ x, zs[k] = x := ⟨_, rfl⟩
        obtain ⟨y, hy⟩ : ∃ y, ys[k] = y := ⟨_, rfl⟩
        rw [hx] at c0 c1 c2 c3 c4 c5
        rw [hy] at d0 d1 d2 d3 d4 d5
        have HX := Lib.hid hx
        have HY := Lib.hid hy
        clear hx hy
        have G := fun (w : World) => guard_req .neq (.tmp 19) (.tmp 23) #[.int .i64 x.cl, .int .i64 x.tm, .int .i64 x.kd, .int .i64 x.ky, .int .i64 x.vl, .int .i64 x.sg] #[.int .i64 y.cl, .int .i64 y.tm, .int .i64 y.kd, .int .i64 y.ky, .int .i64 y.vl, .int .i64 y.sg] w
        by_cases hxy : x = y
        · have E := fun (w : World) => neq_req (x := x) (y := y) (r := false) (by simp [hxy]) w
          have HT2 := Lib.hid (takeL_next hlt hlt2 HT.out (HX.out.trans (hxy.trans HY.out.symm)))
          clear hxy
          go_wp2
          go_quiet (fail)
          clear E G
          go_wp2
          go_roundw
          case rel => exact ⟨k + 1, _, by go_num, by omega, rfl, HT2.out⟩
          case measure => simp [intOf]; omega
        · have E := fun (w : World) => neq_req (x := x) (y := y) (r := true) (by simp [hxy]) w
          have HS := Lib.hid (sameL_far hlt hlt2 (by rw [HX.out, HY.out]; exact hxy))
          clear hxy
          go_wp2
          go_quiet (fail)
          clear E G
          go_wp2
          go_ret
          exact ⟨by rw [HS.out]; rfl, ⟨_, World.drewN_drewN _ _ _⟩⟩
      · have HS := Lib.hid (sameL_end (by omega : zs.length ≤ k) HT.out HL.out)
        have hlt2 : ¬ k < ys.length := by rw [← HL.out]; exact hlt
        go_wp2
        go_ret
        exact ⟨by rw [HS.out]; rfl, ⟨_, rfl⟩⟩
  · have HS := Lib.hid (sameL_len hlen)
    have hb : decide (zs.length = ys.length) = false := by simpa using hlen
    have hb2 : ((zs.length : Int) != ys.length) = true := by simp; omega
    go_enter Try.func80, Try.ntmps80
    go_wp2
    go_ret
    exact ⟨by rw [HS.out]; rfl, ⟨0, rfl⟩⟩
theorem rq_same {A A' : Option Addr} {c c' n n' B B' : Nat} {zs ys : List Rq} {w : World} (h1 : Has w B A (reqCells zs)) (hn : zs.length = n) (hl : n ≤ 1000000) (h2 : Has w B' A' (reqCells ys)) (hn' : ys.length = n') :
    Calls Try.prog 77 #[.slice A n c, .slice A' n' c'] w fun e w' => e = .returned (.bool (sameL zs ys)) ∧ Below w.heap.size w w' := by
  have HC := Lib.hid (rq_equal A A' c c' zs ys B B' w (by omega) h1 h2)
  rw [hn, hn'] at HC
  clear h1 h2 hn hn' hl
  go_enter Try.func77, Try.ntmps77
  go_wp2_with fail
  refine HC.out.mono ?_
  rintro e w2 ⟨rfl, m, rfl⟩
  go_wp2_with fail
  go_ret
  exact ⟨rfl, rfl, rfl, rfl, Nat.le_refl _, fun _ _ => rfl⟩

/-- The place of a request in a list, or -1. -/
def placeS (l : List Rq) (r : Rq) (x : Int) : Prop := (x = -1 ∧ r ∉ l) ∨ (0 ≤ x ∧ r ∈ l)
theorem placeS_yes {l : List Rq} {r : Rq} {k : Nat} (h : k < l.length) (e : l[k] = r) : placeS l r k := Or.inr ⟨by omega, e ▸ List.getElem_mem h⟩
theorem placeS_no {l : List Rq} {r : Rq} {k : Nat} (h : l.length ≤ k) (hn : r ∉ l.take k) : placeS l r (-1) := Or.inl ⟨rfl, by rwa [List.take_of_length_le h] at hn⟩
set_option maxHeartbeats 1000000 in
theorem rq_index (A : Option Addr) (c : Nat) (zs : List Rq) (r : Rq) (B : Nat) (w : World) (hl : zs.length ≤ 9223372036854775806) (h1 : Has w B A (reqCells zs)) :
    Calls Try.prog 81 #[.slice A zs.length c, .agg #[.int .i64 r.cl, .int .i64 r.tm, .int .i64 r.kd, .int .i64 r.ky, .int .i64 r.vl, .int .i64 r.sg]] w fun e w' => ∃ x : Int, e = .returned (.int .i64 x) ∧ placeS zs r x ∧ Below w.heap.size w w' := by
  have HBl := Lib.hid (fun (cs : Array Value) => show Below w.heap.size w (w.alloc (.cells cs 71)) from (Below.refl _ _).alloc (Nat.le_refl _) _)
  have H1 := Lib.hid h1.tight
  clear h1
  go_enter Try.func81, Try.ntmps81
  go_wp2
  have HB := Lib.hid (HBl.out #[.int .i64 r.cl, .int .i64 r.tm, .int .i64 r.kd, .int .i64 r.ky, .int .i64 r.vl, .int .i64 r.sg])
  have HX := Lib.hid (show Blk (w.alloc (.cells #[.int .i64 r.cl, .int .i64 r.tm, .int .i64 r.kd, .int .i64 r.ky, .int .i64 r.vl, .int .i64 r.sg] 71)) w.heap.size 71 #[.int .i64 r.cl, .int .i64 r.tm, .int .i64 r.kd, .int .i64 r.ky, .int .i64 r.vl, .int .i64 r.sg] from Blk.new _ _ _)
  have H2 := Lib.hid (H1.out.below HB.out (Nat.le_refl _))
  obtain ⟨w1, hw1⟩ : ∃ w1, w.alloc (.cells #[.int .i64 r.cl, .int .i64 r.tm, .int .i64 r.kd, .int .i64 r.ky, .int .i64 r.vl, .int .i64 r.sg] 71) = w1 := ⟨_, rfl⟩
  rw [hw1] at HB HX H2 ⊢
  clear hw1 HBl H1
  obtain ⟨g, hg⟩ : ∃ g, w.heap.size = g := ⟨_, rfl⟩
  have HG := Lib.hid hg
  rw [hg] at HX ⊢
  clear hg
  go_loopw [8] (fun x wr => ∃ (k m : Nat), x = .int .i64 k ∧ k ≤ zs.length ∧ Hid (wr = w1.drewN m) ∧ Hid (r ∉ zs.take k)) (fun x _ => zs.length - (intOf x).toNat)
  case atStart => exact ⟨0, 0, rfl, Nat.zero_le _, rfl, (show _ ∉ _ by simp)⟩
  case round =>
    obtain ⟨k, m, rfl, hk, HW, HT⟩ := hrel
    by_cases hlt : k < zs.length
    · have hHr : Has wr w.heap.size A (reqCells zs) := by rw [HW.out]; exact H2.out.drewN m
      obtain ⟨a1, rfl, _, c0, c1, c2, c3, c4, c5⟩ := hHr.req hlt
      have hb : Blk wr g 71 #[.int .i64 r.cl, .int .i64 r.tm, .int .i64 r.kd, .int .i64 r.ky, .int .i64 r.vl, .int .i64 r.sg] := by rw [HW.out]; exact HX.out.drewN m
      have d0 := hb.cell 0
      have d1 := hb.cell 1
      have d2 := hb.cell 2
      have d3 := hb.cell 3
      have d4 := hb.cell 4
      have d5 := hb.cell 5
      simp only [List.getElem?_toArray, List.getElem?_cons_zero, List.getElem?_cons_succ] at d0 d1 d2 d3 d4 d5
      obtain ⟨x, hx⟩ : ∃ x, zs[k] = x := ⟨_, rfl⟩
      rw [hx] at c0 c1 c2 c3 c4 c5
      have HXk := Lib.hid hx
      clear hx hHr hb
      have G := fun (w : World) => guard_req .eql (.tmp 11) (.tmp 15) #[.int .i64 r.cl, .int .i64 r.tm, .int .i64 r.kd, .int .i64 r.ky, .int .i64 r.vl, .int .i64 r.sg] #[.int .i64 x.cl, .int .i64 x.tm, .int .i64 x.kd, .int .i64 x.ky, .int .i64 x.vl, .int .i64 x.sg] w
      by_cases hxy : r = x
      · have E := fun (w : World) => eql_req (x := r) (y := x) (r := true) (by simp [hxy]) w
        have HS := Lib.hid (placeS_yes hlt (HXk.out.trans hxy.symm))
        clear hxy
        go_wp2
        go_quiet (fail)
        clear E G
        go_wp2
        go_ret
        exact ⟨_, rfl, HS.out, HB.out.trans (by rw [HW.out]; exact ⟨rfl, rfl, rfl, Nat.le_refl _, fun _ _ => rfl⟩)⟩
      · have E := fun (w : World) => eql_req (x := r) (y := x) (r := false) (by simp [hxy]) w
        have HT2 := Lib.hid (has_next hlt (by rw [HXk.out]; exact fun e => hxy e.symm) HT.out)
        clear hxy
        go_wp2
        go_quiet (fail)
        clear E G
        go_wp2
        go_roundw
        case rel => exact ⟨k + 1, _, by go_num, by omega, (show _ = w1.drewN _ by rw [HW.out, World.drewN_drewN]), HT2.out⟩
        case measure => simp [intOf]; omega
    · have HS := Lib.hid (placeS_no (by omega : zs.length ≤ k) HT.out)
      go_wp2
      go_ret
      exact ⟨_, rfl, HS.out, HB.out.trans (by rw [HW.out]; exact ⟨rfl, rfl, rfl, Nat.le_refl _, fun _ _ => rfl⟩)⟩
theorem placeS_has {l : List Rq} {r : Rq} {x : Int} (h : placeS l r x) : decide (0 ≤ x) = hasB l r := by
  unfold hasB
  rcases h with ⟨rfl, h⟩ | ⟨h1, h2⟩
  · rw [decide_eq_false h]; rfl
  · rw [decide_eq_true h2]; exact decide_eq_true h1
set_option maxHeartbeats 400000 in
theorem rq_contains (A : Option Addr) (c : Nat) (zs : List Rq) (r : Rq) (B : Nat) (w : World) (hl : zs.length ≤ 9223372036854775806) (h1 : Has w B A (reqCells zs)) :
    Calls Try.prog 79 #[.slice A zs.length c, .agg #[.int .i64 r.cl, .int .i64 r.tm, .int .i64 r.kd, .int .i64 r.ky, .int .i64 r.vl, .int .i64 r.sg]] w fun e w' => e = .returned (.bool (hasB zs r)) ∧ Below w.heap.size w w' := by
  have HB := Lib.hid (show Below w.heap.size w (w.alloc (.cells #[.int .i64 r.cl, .int .i64 r.tm, .int .i64 r.kd, .int .i64 r.ky, .int .i64 r.vl, .int .i64 r.sg] 71)) from (Below.refl _ _).alloc (Nat.le_refl _) _)
  have H2 := Lib.hid (h1.tight.below HB.out (Nat.le_refl _))
  have HL := Lib.hid hl
  clear h1 hl
  go_enter Try.func79, Try.ntmps79
  go_wp2_with fail
  refine (rq_index A c zs r _ _ HL.out H2.out).mono ?_
  rintro e w2 ⟨x, rfl, hp, hb2⟩
  have HP := Lib.hid (placeS_has hp)
  have HB2 := Lib.hid (HB.out.trans (hb2.mono HB.out.size))
  clear hp hb2
  go_wp2_with fail
  go_ret
  exact ⟨by rw [← HP.out]; rfl, HB2.out⟩
theorem rq_has {A : Option Addr} {c n B : Nat} {zs : List Rq} {w : World} (h1 : Has w B A (reqCells zs)) (hn : zs.length = n) (hl : n ≤ 1000000) (r : Rq) :
    Calls Try.prog 73 #[.slice A n c, .agg #[.int .i64 r.cl, .int .i64 r.tm, .int .i64 r.kd, .int .i64 r.ky, .int .i64 r.vl, .int .i64 r.sg]] w fun e w' => e = .returned (.bool (hasB zs r)) ∧ Below w.heap.size w w' := by
  have HB := Lib.hid (show Below w.heap.size w (w.alloc (.cells #[.int .i64 r.cl, .int .i64 r.tm, .int .i64 r.kd, .int .i64 r.ky, .int .i64 r.vl, .int .i64 r.sg] 71)) from (Below.refl _ _).alloc (Nat.le_refl _) _)
  have HC := Lib.hid (rq_contains A c zs r _ _ (by omega) (h1.tight.below HB.out (Nat.le_refl _)))
  rw [hn] at HC
  clear h1 hn hl
  go_enter Try.func73, Try.ntmps73
  go_wp2_with fail
  refine HC.out.mono ?_
  rintro e w2 ⟨rfl, hb2⟩
  have HB2 := Lib.hid (HB.out.trans (hb2.mono HB.out.size))
  clear hb2
  go_wp2_with fail
  go_ret
  exact ⟨rfl, HB2.out⟩
end Go.Proofs.Ytcebnmhkbhhfiaa
