/- The contracts of the document's ReqBody and Compare. -/
import Derived.Test.YtbebfgfpdcdcoaaGreatOS0
import Derived.Test.YtbebfgfpdcdcoaaGreatOPenCerts
import Derived.Test.YtbebfgfpdcdcoaaGreatOSameVotes
import Derived.Deep.QuietTactic
import Derived.BigQuiet
import Derived.StillTailTactics
import Derived.IntWalk
namespace Go.Proofs.YtbebfgfpdcdcoaaGreat
open Go.RowKit

/-- What a client seals: the request without its seal. -/
def Rq.bare (r : Rq) : Rq := { r with sg := 0 }
theorem own_down {w : World} {b b' n s : Nat} {e : TypeId} {v : Value} {xs : List Value} (h : w.ownsRow b e s v n xs) (hb : b' ≤ b) : w.ownsRow b' e s v n xs := by
  refine ⟨h.1, ?_⟩
  rcases h.2 with h2 | ⟨g, cap, cur, hv, hg, r⟩
  · exact Or.inl h2
  · exact Or.inr ⟨g, cap, cur, hv, Nat.le_trans hb hg, r⟩
/-- From a later world back. -/
theorem BytesPost.back {ts : List Tok} {w w1 w' : World} {e : Ending} (h : BytesPost ts w1 e w') (hb : Below w.heap.size w w1) : BytesPost ts w e w' := by
  obtain ⟨h1, h2⟩ := h
  refine ⟨hb.trans (h1.mono hb.size), ?_⟩
  rcases h2 with ⟨bs, A, c, k1, k2, k3⟩ | h2
  · exact Or.inl ⟨bs, A, c, k1, k2, own_down k3 hb.size⟩
  · exact Or.inr h2
set_option maxHeartbeats 400000 in
theorem rbody_any (r : Rq) (w : World) :
    Calls Tryz.prog 156 #[.agg #[.int .i64 r.cl, .int .i64 r.tm, .int .i64 r.kd, .int .i64 r.ky, .int .i64 r.vl, .int .i64 r.sg]] w (BytesPost r.bare.toks w) := by
  have HB := Lib.hid (fun (cs : Array Value) => show Below w.heap.size w (w.alloc (.cells cs 69)) from (Below.refl _ _).alloc (Nat.le_refl _) _)
  go_enter Tryz.func156, Tryz.ntmps156
  go_wp2_with fail
  refine (ref_req r.bare _).mono ?_
  rintro e w1 hp
  have HP := Lib.hid (hp.back (HB.out _))
  rcases hp with ⟨_, ⟨bs, A, c, _, rfl, _⟩ | ⟨_, rfl⟩⟩
  all_goals
    go_wp2_with fail
    go_ret2
    exact HP.out
theorem key_len (r : Rq) : r.key.length = 6 := rfl
theorem key_cells {w : World} {g t : Nat} {r : Rq} (h : Blk w g t #[.int .i64 r.cl, .int .i64 r.tm, .int .i64 r.kd, .int .i64 r.ky, .int .i64 r.vl, .int .i64 r.sg]) {i : Nat} {x : Int} {l : List Int} (hd : r.key.drop i = x :: l) : w.cell? ⟨g, i, none⟩ = some (.int .i64 x) := by
  have h1 : r.key[i]? = some x := by
    have : (r.key.drop i)[0]? = some x := by rw [hd]; rfl
    rwa [List.getElem?_drop, Nat.add_zero] at this
  rw [h.cell i]
  have : (#[Value.int .i64 r.cl, .int .i64 r.tm, .int .i64 r.kd, .int .i64 r.ky, .int .i64 r.vl, .int .i64 r.sg] : Array Value) = (r.key.map (Value.int .i64)).toArray := rfl
  rw [this]
  simp [h1]
theorem cmpL_lt {x y : Int} {l m : List Int} (h : x < y) : cmpL (x :: l) (y :: m) = -1 := by unfold cmpL; rw [if_pos h]
theorem cmpL_gt {x y : Int} {l m : List Int} (h : y < x) : cmpL (x :: l) (y :: m) = 1 := by unfold cmpL; rw [if_neg (by omega), if_pos h]
theorem cmpL_eq {x : Int} {l m : List Int} : cmpL (x :: l) (x :: m) = cmpL l m := by
  show (if x < x then (-1 : Int) else if x < x then 1 else cmpL l m) = _
  rw [if_neg (by omega), if_neg (by omega)]
theorem drop_cons {α : Type} {l : List α} {i : Nat} (h : i < l.length) : ∃ x, l.drop i = x :: l.drop (i + 1) := ⟨l[i], List.drop_eq_getElem_cons h⟩
set_option maxHeartbeats 2000000 in
theorem rcompare_any (a b : Rq) (w : World) :
    Calls Tryz.prog 158 #[.agg #[.int .i64 a.cl, .int .i64 a.tm, .int .i64 a.kd, .int .i64 a.ky, .int .i64 a.vl, .int .i64 a.sg], .agg #[.int .i64 b.cl, .int .i64 b.tm, .int .i64 b.kd, .int .i64 b.ky, .int .i64 b.vl, .int .i64 b.sg]] w fun e w' => e = .returned (.int .i64 (cmpR a b)) ∧ Below w.heap.size w w' := by
  have HBl := Lib.hid (fun (cs ds es fs : Array Value) (t u : TypeId) => show Below w.heap.size w ((((w.alloc (.cells cs t)).alloc (.cells ds t)).alloc (.cells es u)).alloc (.cells fs u)) from
    ((((Below.refl _ _).alloc (Nat.le_refl _) _).alloc (by simp) _).alloc (by simp; omega) _).alloc (by simp; omega) _)
  have HBx := Lib.hid (fun (w : World) (cs ds es fs : Array Value) (t u : TypeId) => show Blk ((((w.alloc (.cells cs t)).alloc (.cells ds t)).alloc (.cells es u)).alloc (.cells fs u)) (w.heap.size + 1 + 1) u es from by
    have := (Blk.new ((w.alloc (.cells cs t)).alloc (.cells ds t)) u es).alloc (.cells fs u)
    simpa using this)
  have HBy := Lib.hid (fun (w : World) (cs ds es fs : Array Value) (t u : TypeId) => show Blk ((((w.alloc (.cells cs t)).alloc (.cells ds t)).alloc (.cells es u)).alloc (.cells fs u)) (w.heap.size + 1 + 1 + 1) u fs from by
    have := Blk.new (((w.alloc (.cells cs t)).alloc (.cells ds t)).alloc (.cells es u)) u fs
    simpa using this)
  go_enter Tryz.func158, Tryz.ntmps158
  go_wp2_with fail
  have HB := Lib.hid (HBl.out #[.int .i64 a.cl, .int .i64 a.tm, .int .i64 a.kd, .int .i64 a.ky, .int .i64 a.vl, .int .i64 a.sg] #[.int .i64 b.cl, .int .i64 b.tm, .int .i64 b.kd, .int .i64 b.ky, .int .i64 b.vl, .int .i64 b.sg] #[.int .i64 a.cl, .int .i64 a.tm, .int .i64 a.kd, .int .i64 a.ky, .int .i64 a.vl, .int .i64 a.sg] #[.int .i64 b.cl, .int .i64 b.tm, .int .i64 b.kd, .int .i64 b.ky, .int .i64 b.vl, .int .i64 b.sg] 69 203)
  have HX := Lib.hid (HBx.out w #[.int .i64 a.cl, .int .i64 a.tm, .int .i64 a.kd, .int .i64 a.ky, .int .i64 a.vl, .int .i64 a.sg] #[.int .i64 b.cl, .int .i64 b.tm, .int .i64 b.kd, .int .i64 b.ky, .int .i64 b.vl, .int .i64 b.sg] #[.int .i64 a.cl, .int .i64 a.tm, .int .i64 a.kd, .int .i64 a.ky, .int .i64 a.vl, .int .i64 a.sg] #[.int .i64 b.cl, .int .i64 b.tm, .int .i64 b.kd, .int .i64 b.ky, .int .i64 b.vl, .int .i64 b.sg] 69 203)
  have HY := Lib.hid (HBy.out w #[.int .i64 a.cl, .int .i64 a.tm, .int .i64 a.kd, .int .i64 a.ky, .int .i64 a.vl, .int .i64 a.sg] #[.int .i64 b.cl, .int .i64 b.tm, .int .i64 b.kd, .int .i64 b.ky, .int .i64 b.vl, .int .i64 b.sg] #[.int .i64 a.cl, .int .i64 a.tm, .int .i64 a.kd, .int .i64 a.ky, .int .i64 a.vl, .int .i64 a.sg] #[.int .i64 b.cl, .int .i64 b.tm, .int .i64 b.kd, .int .i64 b.ky, .int .i64 b.vl, .int .i64 b.sg] 69 203)
  obtain ⟨w4, hw4⟩ : ∃ w4, ((((w.alloc (.cells #[.int .i64 a.cl, .int .i64 a.tm, .int .i64 a.kd, .int .i64 a.ky, .int .i64 a.vl, .int .i64 a.sg] 69)).alloc (.cells #[.int .i64 b.cl, .int .i64 b.tm, .int .i64 b.kd, .int .i64 b.ky, .int .i64 b.vl, .int .i64 b.sg] 69)).alloc (.cells #[.int .i64 a.cl, .int .i64 a.tm, .int .i64 a.kd, .int .i64 a.ky, .int .i64 a.vl, .int .i64 a.sg] 203)).alloc (.cells #[.int .i64 b.cl, .int .i64 b.tm, .int .i64 b.kd, .int .i64 b.ky, .int .i64 b.vl, .int .i64 b.sg] 203)) = w4 := ⟨_, rfl⟩
  rw [hw4] at HB HX HY ⊢
  obtain ⟨gx, hgx⟩ : ∃ gx, w.heap.size + 1 + 1 = gx := ⟨_, rfl⟩
  obtain ⟨gy, hgy⟩ : ∃ gy, w.heap.size + 1 + 1 + 1 = gy := ⟨_, rfl⟩
  rw [hgy] at HY ⊢
  rw [hgx] at HX ⊢
  clear hw4 hgy hgx HBl HBx HBy
  go_loopw [7] (fun y wr => ∃ (i m : Nat), y = .int .i64 i ∧ i ≤ 6 ∧ Hid (wr = w4.drewN m) ∧ Hid (cmpR a b = cmpL (a.key.drop i) (b.key.drop i))) (fun y _ => 6 - (intOf y).toNat)
  case atStart => exact ⟨0, 0, rfl, Nat.zero_le _, rfl, rfl⟩
  case round =>
    obtain ⟨i, m, rfl, hi, HW, HC⟩ := hrel
    by_cases hlt : i < 6
    · obtain ⟨x, hx⟩ := drop_cons (l := a.key) (i := i) (by rw [key_len]; exact hlt)
      obtain ⟨y, hy⟩ := drop_cons (l := b.key) (i := i) (by rw [key_len]; exact hlt)
      have hcx : wr.cell? ⟨gx, i, none⟩ = some (.int .i64 x) := by rw [HW.out]; exact key_cells HX.out hx
      have hcy : wr.cell? ⟨gy, i, none⟩ = some (.int .i64 y) := by rw [HW.out]; exact key_cells HY.out hy
      by_cases c1 : x < y
      · have HE := Lib.hid (show cmpR a b = -1 by rw [HC.out, hx, hy, cmpL_lt c1])
        clear hx hy
        go_wp2_with fail
        go_quiet (fail)
        go_wp2_with fail
        go_ret
        rw [HE.out]
        exact ⟨rfl, HB.out.trans (by rw [HW.out]; exact ⟨rfl, rfl, rfl, Nat.le_refl _, fun _ _ => rfl⟩)⟩
      · by_cases c2 : y < x
        · have HE := Lib.hid (show cmpR a b = 1 by rw [HC.out, hx, hy, cmpL_gt c2])
          clear hx hy
          go_wp2_with fail
          go_quiet (fail)
          go_wp2_with fail
          go_quiet (fail)
          go_wp2_with fail
          go_ret
          rw [HE.out]
          exact ⟨rfl, HB.out.trans (by rw [HW.out]; exact ⟨rfl, rfl, rfl, Nat.le_refl _, fun _ _ => rfl⟩)⟩
        · obtain rfl : x = y := by omega
          have HE := Lib.hid (show cmpR a b = cmpL (a.key.drop (i + 1)) (b.key.drop (i + 1)) by rw [HC.out, hx, hy, cmpL_eq])
          clear hx hy c1 c2
          go_wp2_with fail
          go_quiet (fail)
          go_wp2_with fail
          go_quiet (fail)
          go_wp2_with fail
          go_roundw
          case rel => exact ⟨i + 1, _, by go_num, by omega, (show _ = w4.drewN _ by rw [HW.out, World.drewN_drewN]), HE.out⟩
          case measure => simp [intOf]; omega
    · obtain rfl : i = 6 := by omega
      have HE := Lib.hid (show cmpR a b = 0 by rw [HC.out]; rfl)
      go_wp2_with fail
      go_ret
      rw [HE.out]
      exact ⟨rfl, HB.out.trans (by rw [HW.out]; exact ⟨rfl, rfl, rfl, Nat.le_refl _, fun _ _ => rfl⟩)⟩
end Go.Proofs.YtbebfgfpdcdcoaaGreat
/- The contracts of the document's Same, Has, Rises at requests. -/
namespace Go.Proofs.YtbebfgfpdcdcoaaGreat
open Go.RowKit

theorem eql_req {x y : Rq} {r : Bool} (h : decide (x = y) = r) (w : World) : (binOp .eql 69 (.agg #[.int .i64 x.cl, .int .i64 x.tm, .int .i64 x.kd, .int .i64 x.ky, .int .i64 x.vl, .int .i64 x.sg]) (.agg #[.int .i64 y.cl, .int .i64 y.tm, .int .i64 y.kd, .int .i64 y.ky, .int .i64 y.vl, .int .i64 y.sg])).run Tryz.prog w = .ok (.bool r) w := by
  rw [run_eql_struct, equal_req x y 9997 w, ← h]
  rfl
def hasB (l : List Rq) (r : Rq) : Bool := decide (r ∈ l)
theorem has_yes {l : List Rq} {r : Rq} {k : Nat} (h : k < l.length) (e : l[k] = r) : hasB l r = true := decide_eq_true (e ▸ List.getElem_mem h)
theorem has_next {l : List Rq} {r : Rq} {k : Nat} (h : k < l.length) (e : l[k] ≠ r) (hn : r ∉ l.take k) : r ∉ l.take (k + 1) := by
  rw [List.take_succ_eq_append_getElem h]
  intro hm
  rcases List.mem_append.1 hm with hm | hm
  · exact hn hm
  · exact e (List.mem_singleton.1 hm).symm
theorem has_no {l : List Rq} {r : Rq} {k : Nat} (h : l.length ≤ k) (hn : r ∉ l.take k) : hasB l r = false := by
  rw [List.take_of_length_le h] at hn
  exact decide_eq_false hn
set_option maxHeartbeats 1000000 in
theorem rhas_any (A : Option Addr) (c : Nat) (zs : List Rq) (r : Rq) (B : Nat) (w : World) (hl : zs.length ≤ 9223372036854775806) (h1 : Has w B A (reqCells zs)) :
    Calls Tryz.prog 157 #[.slice A zs.length c, .agg #[.int .i64 r.cl, .int .i64 r.tm, .int .i64 r.kd, .int .i64 r.ky, .int .i64 r.vl, .int .i64 r.sg]] w fun e w' => e = .returned (.bool (hasB zs r)) ∧ Below w.heap.size w w' := by
  have HBl := Lib.hid (fun (cs : Array Value) => show Below w.heap.size w (w.alloc (.cells cs 69)) from (Below.refl _ _).alloc (Nat.le_refl _) _)
  have H1 := Lib.hid h1.tight
  clear h1
  go_enter Tryz.func157, Tryz.ntmps157
  go_wp2
  have HB := Lib.hid (HBl.out #[.int .i64 r.cl, .int .i64 r.tm, .int .i64 r.kd, .int .i64 r.ky, .int .i64 r.vl, .int .i64 r.sg])
  have HX := Lib.hid (show Blk (w.alloc (.cells #[.int .i64 r.cl, .int .i64 r.tm, .int .i64 r.kd, .int .i64 r.ky, .int .i64 r.vl, .int .i64 r.sg] 69)) w.heap.size 69 #[.int .i64 r.cl, .int .i64 r.tm, .int .i64 r.kd, .int .i64 r.ky, .int .i64 r.vl, .int .i64 r.sg] from Blk.new _ _ _)
  have H2 := Lib.hid (H1.out.below HB.out (Nat.le_refl _))
  obtain ⟨w1, hw1⟩ : ∃ w1, w.alloc (.cells #[.int .i64 r.cl, .int .i64 r.tm, .int .i64 r.kd, .int .i64 r.ky, .int .i64 r.vl, .int .i64 r.sg] 69) = w1 := ⟨_, rfl⟩
  rw [hw1] at HB HX H2 ⊢
  clear hw1 HBl H1
  obtain ⟨g, hg⟩ : ∃ g, w.heap.size = g := ⟨_, rfl⟩
  have HG := Lib.hid hg
  rw [hg] at HX ⊢
  clear hg
  go_loopw [5] (fun x wr => ∃ (k m : Nat), x = .int .i64 k ∧ k ≤ zs.length ∧ Hid (wr = w1.drewN m) ∧ Hid (r ∉ zs.take k)) (fun x _ => zs.length - (intOf x).toNat)
  case atStart => exact ⟨0, 0, rfl, Nat.zero_le _, rfl, (show _ ∉ _ by simp)⟩
  case round =>
    obtain ⟨k, m, rfl, hk, HW, HT⟩ := hrel
    by_cases hlt : k < zs.length
    · have hHr : Has wr w.heap.size A (reqCells zs) := by rw [HW.out]; exact H2.out.drewN m
      obtain ⟨a1, rfl, _, c0, c1, c2, c3, c4, c5⟩ := hHr.req hlt
      have hb : Blk wr g 69 #[.int .i64 r.cl, .int .i64 r.tm, .int .i64 r.kd, .int .i64 r.ky, .int .i64 r.vl, .int .i64 r.sg] := by rw [HW.out]; exact HX.out.drewN m
      have d0 := hb.cell 0
      have d1 := hb.cell 1
      have d2 := hb.cell 2
      have d3 := hb.cell 3
      have d4 := hb.cell 4
      have d5 := hb.cell 5
      simp only [List.getElem?_toArray, List.getElem?_cons_zero, List.getElem?_cons_succ] at d0 d1 d2 d3 d4 d5
      obtain ⟨x, hx⟩ : ∃ x, zs[k] = x := ⟨_, rfl⟩
      rw [hx] at c0 c1 c2 c3 c4 c5
      have HXk := Lib.hid hx
      clear hx hHr hb
      have G := fun (w : World) => guard_req .eql (.tmp 15) (.tmp 16) #[.int .i64 x.cl, .int .i64 x.tm, .int .i64 x.kd, .int .i64 x.ky, .int .i64 x.vl, .int .i64 x.sg] #[.int .i64 r.cl, .int .i64 r.tm, .int .i64 r.kd, .int .i64 r.ky, .int .i64 r.vl, .int .i64 r.sg] w
      by_cases hxy : x = r
      · have E := fun (w : World) => eql_req (x := x) (y := r) (r := true) (by simp [hxy]) w
        have HS := Lib.hid (has_yes hlt (HXk.out.trans hxy))
        clear hxy
        go_wp2
        go_quiet (fail)
        clear E G
        go_wp2
        go_ret
        exact ⟨by rw [HS.out]; rfl, HB.out.trans (by rw [HW.out]; exact ⟨rfl, rfl, rfl, Nat.le_refl _, fun _ _ => rfl⟩)⟩
      · have E := fun (w : World) => eql_req (x := x) (y := r) (r := false) (by simp [hxy]) w
        have HT2 := Lib.hid (has_next hlt (by rw [HXk.out]; exact hxy) HT.out)
        clear hxy
        go_wp2
        go_quiet (fail)
        clear E G
        go_wp2
        go_roundw
        case rel => exact ⟨k + 1, _, by go_num, by omega, (show _ = w1.drewN _ by rw [HW.out, World.drewN_drewN]), HT2.out⟩
        case measure => simp [intOf]; omega
    · have HS := Lib.hid (has_no (by omega : zs.length ≤ k) HT.out)
      go_wp2
      go_ret
      exact ⟨by rw [HS.out]; rfl, HB.out.trans (by rw [HW.out]; exact ⟨rfl, rfl, rfl, Nat.le_refl _, fun _ _ => rfl⟩)⟩

structure RiR (w : World) (zs : List Rq) (k : Nat) (wr : World) : Prop where
  low : Below w.heap.size w wr
  is : risesR zs = risesR (zs.drop (k - 1))
set_option maxHeartbeats 1000000 in
set_option maxRecDepth 100000 in
theorem rrises_any (A : Option Addr) (c : Nat) (zs : List Rq) (B : Nat) (w : World) (hl : zs.length ≤ 9223372036854775806) (h1 : Has w B A (reqCells zs)) :
    Calls Tryz.prog 147 #[.slice A zs.length c] w fun e w' => e = .returned (.bool (risesR zs)) ∧ Below w.heap.size w w' := by
  have H1 := Lib.hid h1.tight
  clear h1
  go_enter Tryz.func147, Tryz.ntmps147
  go_wp2
  go_loopw [3] (fun x wr => ∃ k : Nat, x = .int .i64 k ∧ 1 ≤ k ∧ k ≤ zs.length + 1 ∧ Hid (RiR w zs k wr)) (fun x _ => zs.length - (intOf x).toNat)
  case atStart => exact ⟨1, rfl, Nat.le_refl _, by omega, Below.refl _ _, rfl⟩
  case round =>
    obtain ⟨k, rfl, hk1, hk, HR⟩ := hrel
    by_cases hlt : k < zs.length
    · obtain ⟨j, rfl⟩ : ∃ j, k = j + 1 := ⟨k - 1, by omega⟩
      have hj : j < zs.length := by omega
      have HH := H1.out.below HR.out.low (Nat.le_refl _)
      obtain ⟨a1, rfl, _, c0, c1, c2, c3, c4, c5⟩ := HH.req hj
      obtain ⟨a2, he, _, d0, d1, d2, d3, d4, d5⟩ := HH.req hlt
      cases he
      obtain ⟨x, hx⟩ : ∃ x, zs[j] = x := ⟨_, rfl⟩
      obtain ⟨y, hy⟩ : ∃ y, zs[j + 1] = y := ⟨_, rfl⟩
      rw [hx] at c0 c1 c2 c3 c4 c5
      rw [hy] at d0 d1 d2 d3 d4 d5
      have HN := Lib.hid (show risesR (zs.drop j) = (decide (cmpR x y < 0) && risesR (zs.drop (j + 1))) from risesR_next (by rw [List.drop_eq_getElem_cons hj, List.drop_eq_getElem_cons hlt, hx, hy]))
      have HC := Lib.hid (fun w => rcompare_any x y w)
      have HLow := Lib.hid (show Below w.heap.size w wr.drew from HR.out.low.trans ⟨rfl, rfl, rfl, Nat.le_refl _, fun _ _ => rfl⟩)
      clear hx hy HH
      have hj1 : IntKind.i64.wrap (j : Int) = (j : Int) := IntWalk.i64_in _ (by omega)
      have hj2 : 0 ≤ (j : Int) + 1 := by omega
      have hj3 : ((j : Int) + 1).toNat = j + 1 := by omega
      have hj4 : (j : Int) + 1 < zs.length := by omega
      go_wp2_with fail
      go_still_tail 9, (by kernel_rfl)
      change wpList _ _ _ _ _ wr.drew
      clear hj1 hj2 hj3
      by_cases hxy : cmpR x y < 0
      · have HT2 := Lib.hid (show risesR zs = risesR (zs.drop (j + 1)) by
          rw [HR.out.is, show j + 1 - 1 = j by omega, HN.out, decide_eq_true hxy, Bool.true_and])
        go_wp2_with fail
        refine (HC.out _).mono ?_
        rintro e w2 ⟨rfl, hb2⟩
        have HB2 := Lib.hid (HLow.out.trans (hb2.mono HLow.out.size))
        clear hb2
        go_wp2_with fail
        go_roundw
        case rel => exact ⟨j + 1 + 1, by go_num, by omega, by omega, HB2.out, (show _ = _ by rw [HT2.out]; rfl)⟩
        case measure => simp [intOf]; omega
      · have HF := Lib.hid (show risesR zs = false by
          rw [HR.out.is, show j + 1 - 1 = j by omega, HN.out, decide_eq_false hxy, Bool.false_and])
        go_wp2_with fail
        refine (HC.out _).mono ?_
        rintro e w2 ⟨rfl, hb2⟩
        have HB2 := Lib.hid (HLow.out.trans (hb2.mono HLow.out.size))
        clear hb2
        go_wp2_with fail
        go_ret
        exact ⟨by rw [HF.out]; rfl, HB2.out⟩
    · have HE := Lib.hid (show risesR zs = true by rw [HR.out.is]; exact risesR_last (by omega))
      go_wp2_with fail
      go_ret
      exact ⟨by rw [HE.out]; rfl, HR.out.low⟩
end Go.Proofs.YtbebfgfpdcdcoaaGreat
