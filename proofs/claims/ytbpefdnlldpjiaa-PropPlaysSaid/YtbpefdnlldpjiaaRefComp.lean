/- The contracts of the document's ReqBody and Compare. -/
import Derived.Test.YtbpefdnlldpjiaaRefValid
import Derived.Test.YtbpefdnlldpjiaaPenCerts
import Derived.Deep.QuietTactic
import Derived.BigQuiet
namespace Go.Proofs.Ytbpefdnlldpjiaa
open Go.RowKit

/-- What a client seals: the request without its seal. -/
def Rq.bare (r : Rq) : Rq := { r with sg := 0 }
theorem own_down {w : World} {b b' n s : Nat} {e : TypeId} {v : Value} {xs : List Value} (h : w.ownsRow b e s v n xs) (hb : b' ≤ b) : w.ownsRow b' e s v n xs := by
  refine ⟨h.1, ?_⟩
  rcases h.2 with h2 | ⟨g, cap, cur, hv, hg, r⟩
  · exact Or.inl h2
  · exact Or.inr ⟨g, cap, cur, hv, Nat.le_trans hb hg, r⟩
/-- From a later world back. -/
theorem BytesPost.back {ts : List Tok} {w w1 w' : World} {e : Ending} (h : BytesPost ts w1 e w') (hb : Below w.heap.size w w1) : BytesPost ts w e w' := by
  obtain ⟨h1, h2⟩ := h
  refine ⟨hb.trans (h1.mono hb.size), ?_⟩
  rcases h2 with ⟨bs, A, c, k1, k2, k3⟩ | h2
  · exact Or.inl ⟨bs, A, c, k1, k2, own_down k3 hb.size⟩
  · exact Or.inr h2
theorem key_len (r : Rq) : r.key.length = 6 := rfl
theorem key_cells {w : World} {g t : Nat} {r : Rq} (h : Blk w g t #[.int .i64 r.cl, .int .i64 r.tm, .int .i64 r.kd, .int .i64 r.ky, .int .i64 r.vl, .int .i64 r.sg]) {i : Nat} {x : Int} {l : List Int} (hd : r.key.drop i = x :: l) : w.cell? ⟨g, i, none⟩ = some (.int .i64 x) := by
  have h1 : r.key[i]? = some x := by
    have : (r.key.drop i)[0]? = some x := by rw [hd]; rfl
    rwa [List.getElem?_drop, Nat.add_zero] at this
  rw [h.cell i]
  have : (#[Value.int .i64 r.cl, .int .i64 r.tm, .int .i64 r.kd, .int .i64 r.ky, .int .i64 r.vl, .int .i64 r.sg] : Array Value) = (r.key.map (Value.int .i64)).toArray := rfl
  rw [this]
  simp [h1]
theorem cmpL_lt {x y : Int} {l m : List Int} (h : x < y) : cmpL (x :: l) (y :: m) = -1 := by unfold cmpL; rw [if_pos h]
theorem cmpL_gt {x y : Int} {l m : List Int} (h : y < x) : cmpL (x :: l) (y :: m) = 1 := by unfold cmpL; rw [if_neg (by omega), if_pos h]
theorem cmpL_eq {x : Int} {l m : List Int} : cmpL (x :: l) (x :: m) = cmpL l m := by
  show (if x < x then (-1 : Int) else if x < x then 1 else cmpL l m) = _
  rw [if_neg (by omega), if_neg (by omega)]
theorem drop_cons {α : Type} {l : List α} {i : Nat} (h : i < l.length) : ∃ x, l.drop i = x :: l.drop (i + 1) := ⟨l[i], List.drop_eq_getElem_cons h⟩
set_option maxHeartbeats 2000000 in
theorem rcompare_any (a b : Rq) (w : World) :
    Calls Try.prog 49 #[.agg #[.int .i64 a.cl, .int .i64 a.tm, .int .i64 a.kd, .int .i64 a.ky, .int .i64 a.vl, .int .i64 a.sg], .agg #[.int .i64 b.cl, .int .i64 b.tm, .int .i64 b.kd, .int .i64 b.ky, .int .i64 b.vl, .int .i64 b.sg]] w fun e w' => e = .returned (.int .i64 (cmpR a b)) ∧ Below w.heap.size w w' := by
  have HBl := Lib.hid (fun (cs ds es fs : Array Value) (t u : TypeId) => show Below w.heap.size w ((((w.alloc (.cells cs t)).alloc (.cells ds t)).alloc (.cells es u)).alloc (.cells fs u)) from
    ((((Below.refl _ _).alloc (Nat.le_refl _) _).alloc (by simp) _).alloc (by simp; omega) _).alloc (by simp; omega) _)
  have HBx := Lib.hid (fun (w : World) (cs ds es fs : Array Value) (t u : TypeId) => show Blk ((((w.alloc (.cells cs t)).alloc (.cells ds t)).alloc (.cells es u)).alloc (.cells fs u)) (w.heap.size + 1 + 1) u es from by
    have := (Blk.new ((w.alloc (.cells cs t)).alloc (.cells ds t)) u es).alloc (.cells fs u)
    simpa using this)
  have HBy := Lib.hid (fun (w : World) (cs ds es fs : Array Value) (t u : TypeId) => show Blk ((((w.alloc (.cells cs t)).alloc (.cells ds t)).alloc (.cells es u)).alloc (.cells fs u)) (w.heap.size + 1 + 1 + 1) u fs from by
    have := Blk.new (((w.alloc (.cells cs t)).alloc (.cells ds t)).alloc (.cells es u)) u fs
    simpa using this)
  go_enter Try.func49, Try.ntmps49
  go_wp2_with fail
  have HB := Lib.hid (HBl.out #[.int .i64 a.cl, .int .i64 a.tm, .int .i64 a.kd, .int .i64 a.ky, .int .i64 a.vl, .int .i64 a.sg] #[.int .i64 b.cl, .int .i64 b.tm, .int .i64 b.kd, .int .i64 b.ky, .int .i64 b.vl, .int .i64 b.sg] #[.int .i64 a.cl, .int .i64 a.tm, .int .i64 a.kd, .int .i64 a.ky, .int .i64 a.vl, .int .i64 a.sg] #[.int .i64 b.cl, .int .i64 b.tm, .int .i64 b.kd, .int .i64 b.ky, .int .i64 b.vl, .int .i64 b.sg] 25 91)
  have HX := Lib.hid (HBx.out w #[.int .i64 a.cl, .int .i64 a.tm, .int .i64 a.kd, .int .i64 a.ky, .int .i64 a.vl, .int .i64 a.sg] #[.int .i64 b.cl, .int .i64 b.tm, .int .i64 b.kd, .int .i64 b.ky, .int .i64 b.vl, .int .i64 b.sg] #[.int .i64 a.cl, .int .i64 a.tm, .int .i64 a.kd, .int .i64 a.ky, .int .i64 a.vl, .int .i64 a.sg] #[.int .i64 b.cl, .int .i64 b.tm, .int .i64 b.kd, .int .i64 b.ky, .int .i64 b.vl, .int .i64 b.sg] 25 91)
  have HY := Lib.hid (HBy.out w #[.int .i64 a.cl, .int .i64 a.tm, .int .i64 a.kd, .int .i64 a.ky, .int .i64 a.vl, .int .i64 a.sg] #[.int .i64 b.cl, .int .i64 b.tm, .int .i64 b.kd, .int .i64 b.ky, .int .i64 b.vl, .int .i64 b.sg] #[.int .i64 a.cl, .int .i64 a.tm, .int .i64 a.kd, .int .i64 a.ky, .int .i64 a.vl, .int .i64 a.sg] #[.int .i64 b.cl, .int .i64 b.tm, .int .i64 b.kd, .int .i64 b.ky, .int .i64 b.vl, .int .i64 b.sg] 25 91)
  obtain ⟨w4, hw4⟩ : ∃ w4, ((((w.alloc (.cells #[.int .i64 a.cl, .int .i64 a.tm, .int .i64 a.kd, .int .i64 a.ky, .int .i64 a.vl, .int .i64 a.sg] 25)).alloc (.cells #[.int .i64 b.cl, .int .i64 b.tm, .int .i64 b.kd, .int .i64 b.ky, .int .i64 b.vl, .int .i64 b.sg] 25)).alloc (.cells #[.int .i64 a.cl, .int .i64 a.tm, .int .i64 a.kd, .int .i64 a.ky, .int .i64 a.vl, .int .i64 a.sg] 91)).alloc (.cells #[.int .i64 b.cl, .int .i64 b.tm, .int .i64 b.kd, .int .i64 b.ky, .int .i64 b.vl, .int .i64 b.sg] 91)) = w4 := ⟨_, rfl⟩
  rw [hw4] at HB HX HY ⊢
  obtain ⟨gx, hgx⟩ : ∃ gx, w.heap.size + 1 + 1 = gx := ⟨_, rfl⟩
  obtain ⟨gy, hgy⟩ : ∃ gy, w.heap.size + 1 + 1 + 1 = gy := ⟨_, rfl⟩
  rw [hgy] at HY ⊢
  rw [hgx] at HX ⊢
  clear hw4 hgy hgx HBl HBx HBy
  go_loopw [7] (fun y wr => ∃ (i m : Nat), y = .int .i64 i ∧ i ≤ 6 ∧ Hid (wr = w4.drewN m) ∧ Hid (cmpR a b = cmpL (a.key.drop i) (b.key.drop i))) (fun y _ => 6 - (intOf y).toNat)
  case atStart => exact ⟨0, 0, rfl, Nat.zero_le _, rfl, rfl⟩
  case round =>
    obtain ⟨i, m, rfl, hi, HW, HC⟩ := hrel
    by_cases hlt : i < 6
    · obtain ⟨x, hx⟩ := drop_cons (l := a.key) (i := i) (by rw [key_len]; exact hlt)
      obtain ⟨y, hy⟩ := drop_cons (l := b.key) (i := i) (by rw [key_len]; exact hlt)
      have hcx : wr.cell? ⟨gx, i, none⟩ = some (.int .i64 x) := by rw [HW.out]; exact key_cells HX.out hx
      have hcy : wr.cell? ⟨gy, i, none⟩ = some (.int .i64 y) := by rw [HW.out]; exact key_cells HY.out hy
      by_cases c1 : x < y
      · have HE := Lib.hid (show cmpR a b = -1 by rw [HC.out, hx, hy, cmpL_lt c1])
        clear hx hy
        go_wp2_with fail
        go_quiet (fail)
        go_wp2_with fail
        go_ret
        rw [HE.out]
        exact ⟨rfl, HB.out.trans (by rw [HW.out]; exact ⟨rfl, rfl, rfl, Nat.le_refl _, fun _ _ => rfl⟩)⟩
      · by_cases c2 : y < x
        · have HE := Lib.hid (show cmpR a b = 1 by rw [HC.out, hx, hy, cmpL_gt c2])
          clear hx hy
          go_wp2_with fail
          go_quiet (fail)
          go_wp2_with fail
          go_quiet (fail)
          go_wp2_with fail
          go_ret
          rw [HE.out]
          exact ⟨rfl, HB.out.trans (by rw [HW.out]; exact ⟨rfl, rfl, rfl, Nat.le_refl _, fun _ _ => rfl⟩)⟩
        · obtain rfl : x = y := by omega
          have HE := Lib.hid (show cmpR a b = cmpL (a.key.drop (i + 1)) (b.key.drop (i + 1)) by rw [HC.out, hx, hy, cmpL_eq])
          clear hx hy c1 c2
          go_wp2_with fail
          go_quiet (fail)
          go_wp2_with fail
          go_quiet (fail)
          go_wp2_with fail
          go_roundw
          case rel => exact ⟨i + 1, _, by go_num, by omega, (show _ = w4.drewN _ by rw [HW.out, World.drewN_drewN]), HE.out⟩
          case measure => simp [intOf]; omega
    · obtain rfl : i = 6 := by omega
      have HE := Lib.hid (show cmpR a b = 0 by rw [HC.out]; rfl)
      go_wp2_with fail
      go_ret
      rw [HE.out]
      exact ⟨rfl, HB.out.trans (by rw [HW.out]; exact ⟨rfl, rfl, rfl, Nat.le_refl _, fun _ _ => rfl⟩)⟩
end Go.Proofs.Ytbpefdnlldpjiaa
