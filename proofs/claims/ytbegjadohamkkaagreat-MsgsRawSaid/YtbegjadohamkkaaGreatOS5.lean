/- The contracts of the document's ReqBody and Compare. -/
import Derived.Test.YtbegjadohamkkaaGreatOS1
import Derived.Test.YtbegjadohamkkaaGreatOPenCerts
import Derived.Test.YtbegjadohamkkaaGreatOS0
import Derived.Test.YtbegjadohamkkaaGreatOS3
import Derived.Deep.QuietTactic
import Derived.BigQuiet
import Derived.StillTailTactics
import Derived.IntWalk
import Derived.Deep.RegionLaw
import Derived.Maps.AppendAt
import Derived.Laws.OwnMore
import Derived.Lib.SliceRun
import Derived.Deep.RegionHeld3
import Derived.Sort.Grow
import Derived.Lib.QuietBelow
import Derived.Deep.DeepCutAuto
namespace Go.Proofs.YtbegjadohamkkaaGreat
open Go.RowKit

/-- What a client seals: the request without its seal. -/
def Rq.bare (r : Rq) : Rq := { r with sg := 0 }
theorem own_down {w : World} {b b' n s : Nat} {e : TypeId} {v : Value} {xs : List Value} (h : w.ownsRow b e s v n xs) (hb : b' ≤ b) : w.ownsRow b' e s v n xs := by
  refine ⟨h.1, ?_⟩
  rcases h.2 with h2 | ⟨g, cap, cur, hv, hg, r⟩
  · exact Or.inl h2
  · exact Or.inr ⟨g, cap, cur, hv, Nat.le_trans hb hg, r⟩
/-- From a later world back. -/
theorem BytesPost.back {ts : List Tok} {w w1 w' : World} {e : Ending} (h : BytesPost ts w1 e w') (hb : Below w.heap.size w w1) : BytesPost ts w e w' := by
  obtain ⟨h1, h2⟩ := h
  refine ⟨hb.trans (h1.mono hb.size), ?_⟩
  rcases h2 with ⟨bs, A, c, k1, k2, k3⟩ | h2
  · exact Or.inl ⟨bs, A, c, k1, k2, own_down k3 hb.size⟩
  · exact Or.inr h2
set_option maxHeartbeats 400000 in
theorem rbody_any (r : Rq) (w : World) :
    Calls Tryz.prog 156 #[.agg #[.int .i64 r.cl, .int .i64 r.tm, .int .i64 r.kd, .int .i64 r.ky, .int .i64 r.vl, .int .i64 r.sg]] w (BytesPost r.bare.toks w) := by
  have HB := Lib.hid (fun (cs : Array Value) => show Below w.heap.size w (w.alloc (.cells cs 69)) from (Below.refl _ _).alloc (Nat.le_refl _) _)
  go_enter Tryz.func156, Tryz.ntmps156
  go_wp2_with fail
  refine (ref_req r.bare _).mono ?_
  rintro e w1 hp
  have HP := Lib.hid (hp.back (HB.out _))
  rcases hp with ⟨_, ⟨bs, A, c, _, rfl, _⟩ | ⟨_, rfl⟩⟩
  all_goals
    go_wp2_with fail
    go_ret2
    exact HP.out
theorem key_len (r : Rq) : r.key.length = 6 := rfl
theorem key_cells {w : World} {g t : Nat} {r : Rq} (h : Blk w g t #[.int .i64 r.cl, .int .i64 r.tm, .int .i64 r.kd, .int .i64 r.ky, .int .i64 r.vl, .int .i64 r.sg]) {i : Nat} {x : Int} {l : List Int} (hd : r.key.drop i = x :: l) : w.cell? ⟨g, i, none⟩ = some (.int .i64 x) := by
  have h1 : r.key[i]? = some x := by
    have : (r.key.drop i)[0]? = some x := by rw [hd]; rfl
    rwa [List.getElem?_drop, Nat.add_zero] at this
  rw [h.cell i]
  have : (#[Value.int .i64 r.cl, .int .i64 r.tm, .int .i64 r.kd, .int .i64 r.ky, .int .i64 r.vl, .int .i64 r.sg] : Array Value) = (r.key.map (Value.int .i64)).toArray := rfl
  rw [this]
  simp [h1]
theorem cmpL_lt {x y : Int} {l m : List Int} (h : x < y) : cmpL (x :: l) (y :: m) = -1 := by unfold cmpL; rw [if_pos h]
theorem cmpL_gt {x y : Int} {l m : List Int} (h : y < x) : cmpL (x :: l) (y :: m) = 1 := by unfold cmpL; rw [if_neg (by omega), if_pos h]
theorem cmpL_eq {x : Int} {l m : List Int} : cmpL (x :: l) (x :: m) = cmpL l m := by
  show (if x < x then (-1 : Int) else if x < x then 1 else cmpL l m) = _
  rw [if_neg (by omega), if_neg (by omega)]
theorem drop_cons {α : Type} {l : List α} {i : Nat} (h : i < l.length) : ∃ x, l.drop i = x :: l.drop (i + 1) := ⟨l[i], List.drop_eq_getElem_cons h⟩
set_option maxHeartbeats 2000000 in
theorem rcompare_any (a b : Rq) (w : World) :
    Calls Tryz.prog 158 #[.agg #[.int .i64 a.cl, .int .i64 a.tm, .int .i64 a.kd, .int .i64 a.ky, .int .i64 a.vl, .int .i64 a.sg], .agg #[.int .i64 b.cl, .int .i64 b.tm, .int .i64 b.kd, .int .i64 b.ky, .int .i64 b.vl, .int .i64 b.sg]] w fun e w' => e = .returned (.int .i64 (cmpR a b)) ∧ Below w.heap.size w w' := by
  have HBl := Lib.hid (fun (cs ds es fs : Array Value) (t u : TypeId) => show Below w.heap.size w ((((w.alloc (.cells cs t)).alloc (.cells ds t)).alloc (.cells es u)).alloc (.cells fs u)) from
    ((((Below.refl _ _).alloc (Nat.le_refl _) _).alloc (by simp) _).alloc (by simp; omega) _).alloc (by simp; omega) _)
  have HBx := Lib.hid (fun (w : World) (cs ds es fs : Array Value) (t u : TypeId) => show Blk ((((w.alloc (.cells cs t)).alloc (.cells ds t)).alloc (.cells es u)).alloc (.cells fs u)) (w.heap.size + 1 + 1) u es from by
    have := (Blk.new ((w.alloc (.cells cs t)).alloc (.cells ds t)) u es).alloc (.cells fs u)
    simpa using this)
  have HBy := Lib.hid (fun (w : World) (cs ds es fs : Array Value) (t u : TypeId) => show Blk ((((w.alloc (.cells cs t)).alloc (.cells ds t)).alloc (.cells es u)).alloc (.cells fs u)) (w.heap.size + 1 + 1 + 1) u fs from by
    have := Blk.new (((w.alloc (.cells cs t)).alloc (.cells ds t)).alloc (.cells es u)) u fs
    simpa using this)
  go_enter Tryz.func158, Tryz.ntmps158
  go_wp2_with fail
  have HB := Lib.hid (HBl.out #[.int .i64 a.cl, .int .i64 a.tm, .int .i64 a.kd, .int .i64 a.ky, .int .i64 a.vl, .int .i64 a.sg] #[.int .i64 b.cl, .int .i64 b.tm, .int .i64 b.kd, .int .i64 b.ky, .int .i64 b.vl, .int .i64 b.sg] #[.int .i64 a.cl, .int .i64 a.tm, .int .i64 a.kd, .int .i64 a.ky, .int .i64 a.vl, .int .i64 a.sg] #[.int .i64 b.cl, .int .i64 b.tm, .int .i64 b.kd, .int .i64 b.ky, .int .i64 b.vl, .int .i64 b.sg] 69 203)
  have HX := Lib.hid (HBx.out w #[.int .i64 a.cl, .int .i64 a.tm, .int .i64 a.kd, .int .i64 a.ky, .int .i64 a.vl, .int .i64 a.sg] #[.int .i64 b.cl, .int .i64 b.tm, .int .i64 b.kd, .int .i64 b.ky, .int .i64 b.vl, .int .i64 b.sg] #[.int .i64 a.cl, .int .i64 a.tm, .int .i64 a.kd, .int .i64 a.ky, .int .i64 a.vl, .int .i64 a.sg] #[.int .i64 b.cl, .int .i64 b.tm, .int .i64 b.kd, .int .i64 b.ky, .int .i64 b.vl, .int .i64 b.sg] 69 203)
  have HY := Lib.hid (HBy.out w #[.int .i64 a.cl, .int .i64 a.tm, .int .i64 a.kd, .int .i64 a.ky, .int .i64 a.vl, .int .i64 a.sg] #[.int .i64 b.cl, .int .i64 b.tm, .int .i64 b.kd, .int .i64 b.ky, .int .i64 b.vl, .int .i64 b.sg] #[.int .i64 a.cl, .int .i64 a.tm, .int .i64 a.kd, .int .i64 a.ky, .int .i64 a.vl, .int .i64 a.sg] #[.int .i64 b.cl, .int .i64 b.tm, .int .i64 b.kd, .int .i64 b.ky, .int .i64 b.vl, .int .i64 b.sg] 69 203)
  obtain ⟨w4, hw4⟩ : ∃ w4, ((((w.alloc (.cells #[.int .i64 a.cl, .int .i64 a.tm, .int .i64 a.kd, .int .i64 a.ky, .int .i64 a.vl, .int .i64 a.sg] 69)).alloc (.cells #[.int .i64 b.cl, .int .i64 b.tm, .int .i64 b.kd, .int .i64 b.ky, .int .i64 b.vl, .int .i64 b.sg] 69)).alloc (.cells #[.int .i64 a.cl, .int .i64 a.tm, .int .i64 a.kd, .int .i64 a.ky, .int .i64 a.vl, .int .i64 a.sg] 203)).alloc (.cells #[.int .i64 b.cl, .int .i64 b.tm, .int .i64 b.kd, .int .i64 b.ky, .int .i64 b.vl, .int .i64 b.sg] 203)) = w4 := ⟨_, rfl⟩
  rw [hw4] at HB HX HY ⊢
  obtain ⟨gx, hgx⟩ : ∃ gx, w.heap.size + 1 + 1 = gx := ⟨_, rfl⟩
  obtain ⟨gy, hgy⟩ : ∃ gy, w.heap.size + 1 + 1 + 1 = gy := ⟨_, rfl⟩
  rw [hgy] at HY ⊢
  rw [hgx] at HX ⊢
  clear hw4 hgy hgx HBl HBx HBy
  go_loopw [7] (fun y wr => ∃ (i m : Nat), y = .int .i64 i ∧ i ≤ 6 ∧ Hid (wr = w4.drewN m) ∧ Hid (cmpR a b = cmpL (a.key.drop i) (b.key.drop i))) (fun y _ => 6 - (intOf y).toNat)
  case atStart => exact ⟨0, 0, rfl, Nat.zero_le _, rfl, rfl⟩
  case round =>
    obtain ⟨i, m, rfl, hi, HW, HC⟩ := hrel
    by_cases hlt : i < 6
    · obtain ⟨x, hx⟩ := drop_cons (l := a.key) (i := i) (by rw [key_len]; exact hlt)
      obtain ⟨y, hy⟩ := drop_cons (l := b.key) (i := i) (by rw [key_len]; exact hlt)
      have hcx : wr.cell? ⟨gx, i, none⟩ = some (.int .i64 x) := by rw [HW.out]; exact key_cells HX.out hx
      have hcy : wr.cell? ⟨gy, i, none⟩ = some (.int .i64 y) := by rw [HW.out]; exact key_cells HY.out hy
      by_cases c1 : x < y
      · have HE := Lib.hid (show cmpR a b = -1 by rw [HC.out, hx, hy, cmpL_lt c1])
        clear hx hy
        go_wp2_with fail
        go_quiet (fail)
        go_wp2_with fail
        go_ret
        rw [HE.out]
        exact ⟨rfl, HB.out.trans (by rw [HW.out]; exact ⟨rfl, rfl, rfl, Nat.le_refl _, fun _ _ => rfl⟩)⟩
      · by_cases c2 : y < x
        · have HE := Lib.hid (show cmpR a b = 1 by rw [HC.out, hx, hy, cmpL_gt c2])
          clear hx hy
          go_wp2_with fail
          go_quiet (fail)
          go_wp2_with fail
          go_quiet (fail)
          go_wp2_with fail
          go_ret
          rw [HE.out]
          exact ⟨rfl, HB.out.trans (by rw [HW.out]; exact ⟨rfl, rfl, rfl, Nat.le_refl _, fun _ _ => rfl⟩)⟩
        · obtain rfl : x = y := by omega
          have HE := Lib.hid (show cmpR a b = cmpL (a.key.drop (i + 1)) (b.key.drop (i + 1)) by rw [HC.out, hx, hy, cmpL_eq])
          clear hx hy c1 c2
          go_wp2_with fail
          go_quiet (fail)
          go_wp2_with fail
          go_quiet (fail)
          go_wp2_with fail
          go_roundw
          case rel => exact ⟨i + 1, _, by go_num, by omega, (show _ = w4.drewN _ by rw [HW.out, World.drewN_drewN]), HE.out⟩
          case measure => simp [intOf]; omega
    · obtain rfl : i = 6 := by omega
      have HE := Lib.hid (show cmpR a b = 0 by rw [HC.out]; rfl)
      go_wp2_with fail
      go_ret
      rw [HE.out]
      exact ⟨rfl, HB.out.trans (by rw [HW.out]; exact ⟨rfl, rfl, rfl, Nat.le_refl _, fun _ _ => rfl⟩)⟩
end Go.Proofs.YtbegjadohamkkaaGreat
/- A message as it lies; the contract of the document's Body. -/
namespace Go.Proofs.YtbegjadohamkkaaGreat
open Go.RowKit

/-- A message as it lies: it, and where its lists are. -/
structure Ms where
  m : Mg
  A1 : Option Addr
  c1 : Nat
  A2 : Option Addr
  c2 : Nat
  A3 : Option Addr
  c3 : Nat
  A4 : Option Addr
  c4 : Nat
structure Ms.In (w : World) (B : Nat) (x : Ms) : Prop where
  bt : Has w B x.A1 (reqCells x.m.bt)
  vs : Has w B x.A2 (voteCells x.m.vs)
  cs : HasCerts w B x.A3 x.m.cs
  ps : HasParts w B x.A4 x.m.ps
theorem Ms.In.reads {w w' : World} {B B' : Nat} {x : Ms} (h : x.In w B) (hr : Reads B B' w w') : x.In w' B' := ⟨hr _ _ h.bt, hr _ _ h.vs, h.cs.reads hr, h.ps.reads hr⟩
/-- Bytes, or none. -/
def MsgPost (o : Option (List Int)) (w : World) (e : Ending) (w' : World) : Prop :=
  Below w.heap.size w w' ∧ ((∃ bs A c, o = some bs ∧ e = .returned (.tuple #[.slice A bs.length c, .bool true]) ∧ w'.ownsRow w.heap.size 5 1 (.slice A bs.length c) bs.length (u8s bs)) ∨
    (o = none ∧ e = .returned (.tuple #[.slice none 0 0, .bool false])))
theorem pen_more {w1 w2 w3 : World} {B g : Nat} {pre ts : List Tok} {e : Ending} (hk : Kept B g 5 w1 w2) (hp : PenPost w2 B g (6 * pre.length) (penStep (some []) pre) ts e w3) :
    e = .returned (.tuple #[]) ∧ Kept B g 5 w1 w3 ∧ PenHas w3 B g (6 * (pre ++ ts).length) (penStep (some []) (pre ++ ts)) := by
  obtain ⟨h1, h2, h3⟩ := hp
  exact ⟨h1, hk.trans h2, by rw [penStep_app, List.length_append, Nat.mul_add]; exact h3⟩
theorem bodyM_some {m : Mg} {bs : List Int} (h : bytesOf m.toks = some bs) : bodyM m = if bs.length ≤ 65536 then some bs else none := by unfold bodyM; rw [h]
theorem bodyM_none {m : Mg} (h : bytesOf m.toks = none) : bodyM m = none := by unfold bodyM; rw [h]
set_option maxHeartbeats 2000000 in
set_option maxRecDepth 100000 in
theorem rbody_msg (x : Ms) (w : World) (h : x.In w w.heap.size) (hsz : 6 * x.m.toks.length ≤ 70368744177664) :
    Calls Tryz.prog 25 #[.agg #[.int .i64 x.m.kd, .int .i64 x.m.fr, .int .i64 x.m.vw, .int .i64 x.m.ins, .int .i64 x.m.sq, .int .i64 x.m.rs, .slice x.A1 x.m.bt.length x.c1, .slice x.A2 x.m.vs.length x.c2, .slice x.A3 x.m.cs.length x.c3, .slice x.A4 x.m.ps.length x.c4]] w (MsgPost (bodyM x.m) w) := by
  have hsz : 6 * (6 + ((listToks Rq.toks x.m.bt).length + ((listToks Vt.toks x.m.vs).length + ((listToks Ct.toks x.m.cs).length + (listToks Pt.toks x.m.ps).length)))) ≤ 70368744177664 := by
    simp only [Mg.toks, Mg.head, List.length_append, List.length_cons, List.length_nil] at hsz
    omega
  have hb0 : Below w.heap.size w ((w.alloc (.cells #[.int .i64 x.m.kd, .int .i64 x.m.fr, .int .i64 x.m.vw, .int .i64 x.m.ins, .int .i64 x.m.sq, .int .i64 x.m.rs, .slice x.A1 x.m.bt.length x.c1, .slice x.A2 x.m.vs.length x.c2, .slice x.A3 x.m.cs.length x.c3, .slice x.A4 x.m.ps.length x.c4] 38)).alloc (.cells #[.slice none 0 0, .bool false] 123)) := ((Below.refl _ w).alloc (Nat.le_refl _) _).alloc (by simp) _
  have HB0 := Lib.hid hb0
  have HI := Lib.hid ((h.reads (Reads.below hb0 (Nat.le_refl _))).reads (Reads.more (B' := w.heap.size + 1) (Nat.le_succ _)))
  have HH0 := Lib.hid (show PenHas ((w.alloc (.cells #[.int .i64 x.m.kd, .int .i64 x.m.fr, .int .i64 x.m.vw, .int .i64 x.m.ins, .int .i64 x.m.sq, .int .i64 x.m.rs, .slice x.A1 x.m.bt.length x.c1, .slice x.A2 x.m.vs.length x.c2, .slice x.A3 x.m.cs.length x.c3, .slice x.A4 x.m.ps.length x.c4] 38)).alloc (.cells #[.slice none 0 0, .bool false] 123)) (w.heap.size + 1) (w.heap.size + 1) (6 * ([] : List Tok).length) (penStep (some []) []) from by
    have := PenHas.new (w.alloc (.cells #[.int .i64 x.m.kd, .int .i64 x.m.fr, .int .i64 x.m.vw, .int .i64 x.m.ins, .int .i64 x.m.sq, .int .i64 x.m.rs, .slice x.A1 x.m.bt.length x.c1, .slice x.A2 x.m.vs.length x.c2, .slice x.A3 x.m.cs.length x.c3, .slice x.A4 x.m.ps.length x.c4] 38))
    rw [show (w.alloc (.cells #[.int .i64 x.m.kd, .int .i64 x.m.fr, .int .i64 x.m.vw, .int .i64 x.m.ins, .int .i64 x.m.sq, .int .i64 x.m.rs, .slice x.A1 x.m.bt.length x.c1, .slice x.A2 x.m.vs.length x.c2, .slice x.A3 x.m.cs.length x.c3, .slice x.A4 x.m.ps.length x.c4] 38)).heap.size = w.heap.size + 1 by simp] at this
    simpa [penStep_nil] using this)
  have HX0 := Lib.hid (show Blk ((w.alloc (.cells #[.int .i64 x.m.kd, .int .i64 x.m.fr, .int .i64 x.m.vw, .int .i64 x.m.ins, .int .i64 x.m.sq, .int .i64 x.m.rs, .slice x.A1 x.m.bt.length x.c1, .slice x.A2 x.m.vs.length x.c2, .slice x.A3 x.m.cs.length x.c3, .slice x.A4 x.m.ps.length x.c4] 38)).alloc (.cells #[.slice none 0 0, .bool false] 123)) w.heap.size 38 #[.int .i64 x.m.kd, .int .i64 x.m.fr, .int .i64 x.m.vw, .int .i64 x.m.ins, .int .i64 x.m.sq, .int .i64 x.m.rs, .slice x.A1 x.m.bt.length x.c1, .slice x.A2 x.m.vs.length x.c2, .slice x.A3 x.m.cs.length x.c3, .slice x.A4 x.m.ps.length x.c4] from (Blk.new w _ _).alloc _)
  clear h hb0
  go_enter Tryz.func25, Tryz.ntmps25
  go_wp2_with fail
  obtain ⟨w0, hw0⟩ : ∃ w0, ((w.alloc (.cells #[.int .i64 x.m.kd, .int .i64 x.m.fr, .int .i64 x.m.vw, .int .i64 x.m.ins, .int .i64 x.m.sq, .int .i64 x.m.rs, .slice x.A1 x.m.bt.length x.c1, .slice x.A2 x.m.vs.length x.c2, .slice x.A3 x.m.cs.length x.c3, .slice x.A4 x.m.ps.length x.c4] 38)).alloc (.cells #[.slice none 0 0, .bool false] 123)) = w0 := ⟨_, rfl⟩
  rw [hw0] at HB0 HI HH0 HX0 ⊢
  have HS0 := Lib.hid (show w.heap.size + 1 ≤ w0.heap.size from by rw [← hw0]; simp)
  have HK0 := Lib.hid (Kept.refl (w.heap.size + 1) (w.heap.size + 1) 5 w0)
  clear hw0
  refine (pen_num x.m.kd (w.heap.size + 1) (w.heap.size + 1) _ _ w0 HH0.out (by simp at hsz ⊢ <;> omega) HS0.out).mono ?_
  rintro e w1 hp
  obtain ⟨rfl, hk, hh⟩ := pen_more HK0.out hp
  have HK1 := Lib.hid hk
  have HH1 := Lib.hid hh
  have HS1 := Lib.hid (Nat.le_trans HS0.out hk.size)
  have d1 : w1.cell? ⟨w.heap.size, 1, none⟩ = some (.int .i64 x.m.fr) := hk.cellB (Nat.le_refl _) (HX0.out.cell 1) (by simp)
  clear hp hk hh HK0 HH0
  go_wp2_with fail
  refine (pen_num x.m.fr (w.heap.size + 1) (w.heap.size + 1) _ _ w1 HH1.out (by simp at hsz ⊢ <;> omega) HS1.out).mono ?_
  rintro e w2 hp
  obtain ⟨rfl, hk, hh⟩ := pen_more HK1.out hp
  have HK2 := Lib.hid hk
  have HH2 := Lib.hid hh
  have HS2 := Lib.hid (Nat.le_trans HS0.out hk.size)
  have d2 : w2.cell? ⟨w.heap.size, 2, none⟩ = some (.int .i64 x.m.vw) := hk.cellB (Nat.le_refl _) (HX0.out.cell 2) (by simp)
  clear hp hk hh HK1 HH1 HS1
  go_wp2_with fail
  refine (pen_num x.m.vw (w.heap.size + 1) (w.heap.size + 1) _ _ w2 HH2.out (by simp at hsz ⊢ <;> omega) HS2.out).mono ?_
  rintro e w3 hp
  obtain ⟨rfl, hk, hh⟩ := pen_more HK2.out hp
  have HK3 := Lib.hid hk
  have HH3 := Lib.hid hh
  have HS3 := Lib.hid (Nat.le_trans HS0.out hk.size)
  have d3 : w3.cell? ⟨w.heap.size, 3, none⟩ = some (.int .i64 x.m.ins) := hk.cellB (Nat.le_refl _) (HX0.out.cell 3) (by simp)
  clear hp hk hh HK2 HH2 HS2
  go_wp2_with fail
  refine (pen_num x.m.ins (w.heap.size + 1) (w.heap.size + 1) _ _ w3 HH3.out (by simp at hsz ⊢ <;> omega) HS3.out).mono ?_
  rintro e w4 hp
  obtain ⟨rfl, hk, hh⟩ := pen_more HK3.out hp
  have HK4 := Lib.hid hk
  have HH4 := Lib.hid hh
  have HS4 := Lib.hid (Nat.le_trans HS0.out hk.size)
  have d4 : w4.cell? ⟨w.heap.size, 4, none⟩ = some (.int .i64 x.m.sq) := hk.cellB (Nat.le_refl _) (HX0.out.cell 4) (by simp)
  clear hp hk hh HK3 HH3 HS3
  go_wp2_with fail
  refine (pen_num x.m.sq (w.heap.size + 1) (w.heap.size + 1) _ _ w4 HH4.out (by simp at hsz ⊢ <;> omega) HS4.out).mono ?_
  rintro e w5 hp
  obtain ⟨rfl, hk, hh⟩ := pen_more HK4.out hp
  have HK5 := Lib.hid hk
  have HH5 := Lib.hid hh
  have HS5 := Lib.hid (Nat.le_trans HS0.out hk.size)
  have d5 : w5.cell? ⟨w.heap.size, 5, none⟩ = some (.int .i64 x.m.rs) := hk.cellB (Nat.le_refl _) (HX0.out.cell 5) (by simp)
  clear hp hk hh HK4 HH4 HS4
  go_wp2_with fail
  refine (pen_signed x.m.rs (w.heap.size + 1) (w.heap.size + 1) _ _ w5 HH5.out (by simp at hsz ⊢ <;> omega) HS5.out).mono ?_
  rintro e w6 hp
  obtain ⟨rfl, hk, hh⟩ := pen_more HK5.out hp
  have HK6 := Lib.hid hk
  have HH6 := Lib.hid hh
  have HS6 := Lib.hid (Nat.le_trans HS0.out hk.size)
  have d6 : w6.cell? ⟨w.heap.size, 6, none⟩ = some (.slice x.A1 x.m.bt.length x.c1) := hk.cellB (Nat.le_refl _) (HX0.out.cell 6) (by simp)
  clear hp hk hh HK5 HH5 HS5
  go_wp2_with fail
  refine (pen_batch x.m.bt x.A1 x.c1 (w.heap.size + 1) (w.heap.size + 1) _ _ w6 HH6.out (HK6.out.has (Nat.le_refl _) HI.out.bt) (by simp at hsz ⊢ <;> omega) HS6.out).mono ?_
  rintro e w7 hp
  obtain ⟨rfl, hk, hh⟩ := pen_more HK6.out hp
  have HK7 := Lib.hid hk
  have HH7 := Lib.hid hh
  have HS7 := Lib.hid (Nat.le_trans HS0.out hk.size)
  have d7 : w7.cell? ⟨w.heap.size, 7, none⟩ = some (.slice x.A2 x.m.vs.length x.c2) := hk.cellB (Nat.le_refl _) (HX0.out.cell 7) (by simp)
  clear hp hk hh HK6 HH6 HS6
  go_wp2_with fail
  refine (pen_votes x.m.vs x.A2 x.c2 (w.heap.size + 1) (w.heap.size + 1) _ _ w7 HH7.out (HK7.out.has (Nat.le_refl _) HI.out.vs) (by simp at hsz ⊢ <;> omega) HS7.out).mono ?_
  rintro e w8 hp
  obtain ⟨rfl, hk, hh⟩ := pen_more HK7.out hp
  have HK8 := Lib.hid hk
  have HH8 := Lib.hid hh
  have HS8 := Lib.hid (Nat.le_trans HS0.out hk.size)
  have d8 : w8.cell? ⟨w.heap.size, 8, none⟩ = some (.slice x.A3 x.m.cs.length x.c3) := hk.cellB (Nat.le_refl _) (HX0.out.cell 8) (by simp)
  clear hp hk hh HK7 HH7 HS7
  go_wp2_with fail
  refine (pen_certs x.m.cs x.A3 x.c3 (w.heap.size + 1) (w.heap.size + 1) _ _ w8 HH8.out (HI.out.cs.reads (Reads.kept HK8.out (Nat.le_refl _))) (by simp at hsz ⊢ <;> omega) HS8.out).mono ?_
  rintro e w9 hp
  obtain ⟨rfl, hk, hh⟩ := pen_more HK8.out hp
  have HK9 := Lib.hid hk
  have HH9 := Lib.hid hh
  have HS9 := Lib.hid (Nat.le_trans HS0.out hk.size)
  have d9 : w9.cell? ⟨w.heap.size, 9, none⟩ = some (.slice x.A4 x.m.ps.length x.c4) := hk.cellB (Nat.le_refl _) (HX0.out.cell 9) (by simp)
  clear hp hk hh HK8 HH8 HS8
  go_wp2_with fail
  refine (pen_parts x.m.ps x.A4 x.c4 (w.heap.size + 1) (w.heap.size + 1) _ _ w9 HH9.out (HI.out.ps.reads (Reads.kept HK9.out (Nat.le_refl _))) (by simp at hsz ⊢ <;> omega) HS9.out).mono ?_
  rintro e w10 hp
  obtain ⟨rfl, hk, hh⟩ := pen_more HK9.out hp
  have HK10 := Lib.hid hk
  have HH10 := Lib.hid hh
  have HS10 := Lib.hid (Nat.le_trans HS0.out hk.size)
  clear hp hk hh HK9 HH9 HS9
  go_wp2_with fail
  have HT := Lib.hid (show penStep (some []) (((((((((([] ++ [Tok.num x.m.kd]) ++ [Tok.num x.m.fr]) ++ [Tok.num x.m.vw]) ++ [Tok.num x.m.ins]) ++ [Tok.num x.m.sq]) ++ [Tok.sgn x.m.rs]) ++ (listToks Rq.toks x.m.bt)) ++ (listToks Vt.toks x.m.vs)) ++ (listToks Ct.toks x.m.cs)) ++ (listToks Pt.toks x.m.ps)) = bytesOf x.m.toks from by
    rw [penStep_new]
    congr 1
    simp [Mg.toks, Mg.head])
  have HB := Lib.hid (HB0.out.trans (HK10.out.below (Nat.le_refl _) (Nat.le_succ _) (by have := HS10.out; have := HB0.out.size; omega)))
  refine (pen_done _ _ _ _ _ HH10.out).mono ?_
  rintro e w11 ⟨rfl, ⟨bs, A2, c2, hst, rfl, ho⟩ | ⟨hst, rfl⟩⟩
  · rw [HT.out] at hst
    by_cases hl : bs.length ≤ 65536
    · have HR := Lib.hid (show MsgPost (bodyM x.m) w (.returned (.tuple #[.slice A2 bs.length c2, .bool true])) w10 from ⟨HB.out, Or.inl ⟨bs, A2, c2, by rw [bodyM_some hst, if_pos hl], rfl, own_down ho (Nat.le_succ _)⟩⟩)
      have t1 : decide ((65536 : Int) < (bs.length : Int)) = false := decide_eq_false (by omega)
      have t2 : decide (65536 < bs.length) = false := decide_eq_false (by omega)
      clear hst ho hl
      go_wp2_with fail
      go_ret2
      exact HR.out
    · have HR := Lib.hid (show MsgPost (bodyM x.m) w (.returned (.tuple #[.slice none 0 0, .bool false])) w10 from ⟨HB.out, Or.inr ⟨by rw [bodyM_some hst, if_neg hl], rfl⟩⟩)
      have t1 : decide ((65536 : Int) < (bs.length : Int)) = true := decide_eq_true (by omega)
      have t2 : decide (65536 < bs.length) = true := decide_eq_true (by omega)
      clear hst ho hl
      go_wp2_with fail
      go_ret2
      exact HR.out
  · rw [HT.out] at hst
    have HR := Lib.hid (show MsgPost (bodyM x.m) w (.returned (.tuple #[.slice none 0 0, .bool false])) w10 from ⟨HB.out, Or.inr ⟨bodyM_none hst, rfl⟩⟩)
    clear hst
    go_wp2_with fail
    go_ret2
    exact HR.out
end Go.Proofs.YtbegjadohamkkaaGreat
/- Arguments that came in: a message, a certificate, a part, by value, opened to cells. -/
namespace Go.Proofs.YtbegjadohamkkaaGreat
open Go.RowKit Go.ChangeShapes Go.WideShapes Go.Deep

def Ms.vals (x : Ms) : Array Value := #[.int .i64 x.m.kd, .int .i64 x.m.fr, .int .i64 x.m.vw, .int .i64 x.m.ins, .int .i64 x.m.sq, .int .i64 x.m.rs, .slice x.A1 x.m.bt.length x.c1, .slice x.A2 x.m.vs.length x.c2, .slice x.A3 x.m.cs.length x.c3, .slice x.A4 x.m.ps.length x.c4]
/-- A message whose lists came in. -/
structure Ms.Came (w : World) (x : Ms) : Prop where
  kd : fit x.m.kd
  fr : fit x.m.fr
  vw : fit x.m.vw
  ins : fit x.m.ins
  sq : fit x.m.sq
  rs : fit x.m.rs
  bt : IsReqs w x.A1 x.m.bt x.c1
  vs : IsVotes w x.A2 x.m.vs x.c2
  cs : IsCerts w x.A3 x.m.cs x.c3
  ps : IsParts w x.A4 x.m.ps x.c4
theorem Ms.Came.in_ {w : World} {x : Ms} (h : x.Came w) : x.In w w.heap.size := ⟨h.bt.has, h.vs.has, h.cs.has, h.ps.has⟩
theorem Cs.Came.in_ {w : World} {x : Cs} (h : x.Came w) : x.In w w.heap.size := ⟨h.bt.has, h.vs.has⟩
theorem Ps.Came.in_ {w : World} {x : Ps} (h : x.Came w) : x.In w w.heap.size := ⟨h.vs.has, h.cs.has⟩
section
variable {H : Type} {enc : TypeId × Value → H} {w : World} {base : Nat} {held : Bool}
end
end Go.Proofs.YtbegjadohamkkaaGreat
/- The contract of reqs.Valid. -/
namespace Go.Proofs.YtbegjadohamkkaaGreat
open Go.RowKit

def rq_opS (k y v : Int) : Bool := decide (1 ≤ k ∧ k ≤ 5 ∧ 0 ≤ y ∧ y < 64 ∧ -2147483648 < v ∧ v < 2147483648 ∧ (k = 1 ∨ k = 3 ∨ v = 0) ∧ (k ≠ 5 ∨ y = 0))
theorem validS_op (r : Rq) (n : Int) : validS r n = (decide (0 ≤ r.cl ∧ r.cl < n ∧ 1 ≤ r.tm ∧ r.tm ≤ 1048576) && rq_opS r.kd r.ky r.vl && decide (0 ≤ r.sg ∧ r.sg ≤ 1099511627775)) := by
  unfold validS rq_opS
  rw [Bool.eq_iff_iff]
  simp only [Bool.and_eq_true, decide_eq_true_eq]
  omega
set_option maxHeartbeats 4000000 in
theorem rq_op (k y v : Int) (w : World) :
    Calls Tryz.prog 180 #[.agg #[.int .i64 k, .int .i64 y, .int .i64 v]] w fun e w' => e = .returned (.bool (rq_opS k y v)) ∧ Below w.heap.size w w' := by
  by_cases h1 : k = 1
  · subst h1
    go_enter Tryz.func180, Tryz.ntmps180
    go_wp2
    all_goals go_ret
    all_goals refine ⟨congrArg (fun b => Ending.returned (.bool b)) ?_, (Below.refl _ _).alloc (Nat.le_refl _) _⟩
    all_goals (first | exact (decide_eq_false (by omega)).symm | exact (decide_eq_true (by omega)).symm | (rw [Bool.eq_iff_iff]; simp [rq_opS]; omega))
  · have t1 : (k == 1) = false := by simpa using h1
    by_cases h3 : k = 3
    · subst h3
      go_enter Tryz.func180, Tryz.ntmps180
      go_wp2
      all_goals go_ret
      all_goals refine ⟨congrArg (fun b => Ending.returned (.bool b)) ?_, (Below.refl _ _).alloc (Nat.le_refl _) _⟩
      all_goals (first | exact (decide_eq_false (by omega)).symm | exact (decide_eq_true (by omega)).symm | (rw [Bool.eq_iff_iff]; simp [rq_opS]; omega))
    · have t3 : (k == 3) = false := by simpa using h3
      by_cases h2 : k = 2
      · subst h2
        go_enter Tryz.func180, Tryz.ntmps180
        go_wp2
        all_goals go_ret
        all_goals refine ⟨congrArg (fun b => Ending.returned (.bool b)) ?_, (Below.refl _ _).alloc (Nat.le_refl _) _⟩
        all_goals (first | exact (decide_eq_false (by omega)).symm | exact (decide_eq_true (by omega)).symm | (rw [Bool.eq_iff_iff]; simp [rq_opS]; omega))
      · have t2 : (k == 2) = false := by simpa using h2
        by_cases h4 : k = 4
        · subst h4
          go_enter Tryz.func180, Tryz.ntmps180
          go_wp2
          all_goals go_ret
          all_goals refine ⟨congrArg (fun b => Ending.returned (.bool b)) ?_, (Below.refl _ _).alloc (Nat.le_refl _) _⟩
          all_goals (first | exact (decide_eq_false (by omega)).symm | exact (decide_eq_true (by omega)).symm | (rw [Bool.eq_iff_iff]; simp [rq_opS]; omega))
        · have t4 : (k == 4) = false := by simpa using h4
          by_cases h5 : k = 5
          · subst h5
            go_enter Tryz.func180, Tryz.ntmps180
            go_wp2
            all_goals go_ret
            all_goals refine ⟨congrArg (fun b => Ending.returned (.bool b)) ?_, (Below.refl _ _).alloc (Nat.le_refl _) _⟩
            all_goals (first | exact (decide_eq_false (by omega)).symm | exact (decide_eq_true (by omega)).symm | (rw [Bool.eq_iff_iff]; simp [rq_opS]; omega))
          · have t5 : (k == 5) = false := by simpa using h5
            have hk : rq_opS k y v = false := decide_eq_false (by omega)
            rw [hk]
            clear hk h1 h2 h3 h4 h5
            go_enter Tryz.func180, Tryz.ntmps180
            go_wp2
            go_ret
            exact ⟨rfl, (Below.refl _ _).alloc (Nat.le_refl _) _⟩
set_option maxHeartbeats 4000000 in
set_option maxRecDepth 100000 in
theorem rq_valid (r : Rq) (n : Int) (w : World) :
    Calls Tryz.prog 159 #[.agg #[.int .i64 r.cl, .int .i64 r.tm, .int .i64 r.kd, .int .i64 r.ky, .int .i64 r.vl, .int .i64 r.sg], .int .i64 n] w fun e w' => e = .returned (.bool (validS r n)) ∧ Below w.heap.size w w' := by
  have HV := Lib.hid (validS_op r n)
  have HO := Lib.hid (fun w => rq_op r.kd r.ky r.vl w)
  by_cases h1 : 0 ≤ r.cl ∧ r.cl < n ∧ 1 ≤ r.tm ∧ r.tm ≤ 1048576
  · have t1 : decide ((0 : Int) ≤ r.cl) = true := decide_eq_true h1.1
    have t2 : decide (r.cl < n) = true := decide_eq_true h1.2.1
    have t3 : decide ((1 : Int) ≤ r.tm) = true := decide_eq_true h1.2.2.1
    have t4 : decide (r.tm ≤ 1048576) = true := decide_eq_true h1.2.2.2
    rw [decide_eq_true h1, Bool.true_and] at HV
    clear h1
    go_enter Tryz.func159, Tryz.ntmps159
    go_wp2_with fail
    have HX := Lib.hid (show Blk (w.alloc (.cells #[.int .i64 r.cl, .int .i64 r.tm, .int .i64 r.kd, .int .i64 r.ky, .int .i64 r.vl, .int .i64 r.sg] 69)) w.heap.size 69 #[.int .i64 r.cl, .int .i64 r.tm, .int .i64 r.kd, .int .i64 r.ky, .int .i64 r.vl, .int .i64 r.sg] from Blk.new _ _ _)
    have HB := Lib.hid (show Below w.heap.size w (w.alloc (.cells #[.int .i64 r.cl, .int .i64 r.tm, .int .i64 r.kd, .int .i64 r.ky, .int .i64 r.vl, .int .i64 r.sg] 69)) from (Below.refl _ _).alloc (Nat.le_refl _) _)
    refine (HO.out _).mono ?_
    rintro e w2 ⟨rfl, hb2⟩
    have HB2 := Lib.hid (HB.out.trans (hb2.mono HB.out.size))
    have hx2 := HX.out.below hb2 HX.out.lt
    have d5 := hx2.cell 5
    simp only [List.getElem?_toArray, List.getElem?_cons_zero, List.getElem?_cons_succ] at d5
    clear hx2 hb2
    cases ho : rq_opS r.kd r.ky r.vl
    · rw [ho, Bool.false_and] at HV
      clear ho
      go_wp2_with fail
      go_ret
      exact ⟨by rw [HV.out]; rfl, HB2.out⟩
    · rw [ho, Bool.true_and] at HV
      clear ho
      go_wp2_with fail
      all_goals go_ret
      all_goals refine ⟨?_, HB2.out⟩
      all_goals rw [HV.out]
      all_goals refine congrArg (fun b => Ending.returned (.bool b)) ?_
      all_goals (first | exact (decide_eq_false (by omega)).symm | exact (decide_eq_true (by omega)).symm | (rw [Bool.eq_iff_iff]; simp; omega))
  · rw [decide_eq_false h1, Bool.false_and, Bool.false_and] at HV
    have HN := Lib.hid h1
    clear h1
    go_enter Tryz.func159, Tryz.ntmps159
    go_wp2_with (exfalso; have := HN.out; omega)
    all_goals go_ret
    all_goals exact ⟨by rw [HV.out]; rfl, (Below.refl _ _).alloc (Nat.le_refl _) _⟩
end Go.Proofs.YtbegjadohamkkaaGreat
/- The contracts of the document's Same, Has, Rises at requests. -/
namespace Go.Proofs.YtbegjadohamkkaaGreat
open Go.RowKit

structure RiR (w : World) (zs : List Rq) (k : Nat) (wr : World) : Prop where
  low : Below w.heap.size w wr
  is : risesR zs = risesR (zs.drop (k - 1))
set_option maxHeartbeats 1000000 in
set_option maxRecDepth 100000 in
theorem rrises_any (A : Option Addr) (c : Nat) (zs : List Rq) (B : Nat) (w : World) (hl : zs.length ≤ 9223372036854775806) (h1 : Has w B A (reqCells zs)) :
    Calls Tryz.prog 147 #[.slice A zs.length c] w fun e w' => e = .returned (.bool (risesR zs)) ∧ Below w.heap.size w w' := by
  have H1 := Lib.hid h1.tight
  clear h1
  go_enter Tryz.func147, Tryz.ntmps147
  go_wp2
  go_loopw [3] (fun x wr => ∃ k : Nat, x = .int .i64 k ∧ 1 ≤ k ∧ k ≤ zs.length + 1 ∧ Hid (RiR w zs k wr)) (fun x _ => zs.length - (intOf x).toNat)
  case atStart => exact ⟨1, rfl, Nat.le_refl _, by omega, Below.refl _ _, rfl⟩
  case round =>
    obtain ⟨k, rfl, hk1, hk, HR⟩ := hrel
    by_cases hlt : k < zs.length
    · obtain ⟨j, rfl⟩ : ∃ j, k = j + 1 := ⟨k - 1, by omega⟩
      have hj : j < zs.length := by omega
      have HH := H1.out.below HR.out.low (Nat.le_refl _)
      obtain ⟨a1, rfl, _, c0, c1, c2, c3, c4, c5⟩ := HH.req hj
      obtain ⟨a2, he, _, d0, d1, d2, d3, d4, d5⟩ := HH.req hlt
      cases he
      obtain ⟨x, hx⟩ : ∃ x, zs[j] = x := ⟨_, rfl⟩
      obtain ⟨y, hy⟩ : ∃ y, zs[j + 1] = y := ⟨_, rfl⟩
      rw [hx] at c0 c1 c2 c3 c4 c5
      rw [hy] at d0 d1 d2 d3 d4 d5
      have HN := Lib.hid (show risesR (zs.drop j) = (decide (cmpR x y < 0) && risesR (zs.drop (j + 1))) from risesR_next (by rw [List.drop_eq_getElem_cons hj, List.drop_eq_getElem_cons hlt, hx, hy]))
      have HC := Lib.hid (fun w => rcompare_any x y w)
      have HLow := Lib.hid (show Below w.heap.size w wr.drew from HR.out.low.trans ⟨rfl, rfl, rfl, Nat.le_refl _, fun _ _ => rfl⟩)
      clear hx hy HH
      have hj1 : IntKind.i64.wrap (j : Int) = (j : Int) := IntWalk.i64_in _ (by omega)
      have hj2 : 0 ≤ (j : Int) + 1 := by omega
      have hj3 : ((j : Int) + 1).toNat = j + 1 := by omega
      have hj4 : (j : Int) + 1 < zs.length := by omega
      go_wp2_with fail
      go_still_tail 9, (by kernel_rfl)
      change wpList _ _ _ _ _ wr.drew
      clear hj1 hj2 hj3
      by_cases hxy : cmpR x y < 0
      · have HT2 := Lib.hid (show risesR zs = risesR (zs.drop (j + 1)) by
          rw [HR.out.is, show j + 1 - 1 = j by omega, HN.out, decide_eq_true hxy, Bool.true_and])
        go_wp2_with fail
        refine (HC.out _).mono ?_
        rintro e w2 ⟨rfl, hb2⟩
        have HB2 := Lib.hid (HLow.out.trans (hb2.mono HLow.out.size))
        clear hb2
        go_wp2_with fail
        go_roundw
        case rel => exact ⟨j + 1 + 1, by go_num, by omega, by omega, HB2.out, (show _ = _ by rw [HT2.out]; rfl)⟩
        case measure => simp [intOf]; omega
      · have HF := Lib.hid (show risesR zs = false by
          rw [HR.out.is, show j + 1 - 1 = j by omega, HN.out, decide_eq_false hxy, Bool.false_and])
        go_wp2_with fail
        refine (HC.out _).mono ?_
        rintro e w2 ⟨rfl, hb2⟩
        have HB2 := Lib.hid (HLow.out.trans (hb2.mono HLow.out.size))
        clear hb2
        go_wp2_with fail
        go_ret
        exact ⟨by rw [HF.out]; rfl, HB2.out⟩
    · have HE := Lib.hid (show risesR zs = true by rw [HR.out.is]; exact risesR_last (by omega))
      go_wp2_with fail
      go_ret
      exact ⟨by rw [HE.out]; rfl, HR.out.low⟩
end Go.Proofs.YtbegjadohamkkaaGreat
/- The contract of the document's Order. -/
namespace Go.Proofs.YtbegjadohamkkaaGreat
open Go.RowKit

theorem info_req : (Tryz.prog.info? 69).map (fun i => (i.zero, i.size, i.bytes)) = some (some (.agg #[.int .i64 0, .int .i64 0, .int .i64 0, .int .i64 0, .int .i64 0, .int .i64 0]), 6, 48) := by kernel_rfl
theorem reqCells_one (l : List Rq) : ∀ u ∈ reqCells l, u.oneCell' = true := by
  intro u hu
  obtain ⟨v, _, hv⟩ := List.mem_flatMap.1 hu
  simp [Rq.cells] at hv
  rcases hv with rfl | rfl | rfl | rfl | rfl | rfl <;> rfl
/-- append of any slice (nil too) to a row of the call's own, elements of some cells each. -/
theorem run_apps {P : Program} {w : World} (t ty : TypeId) (base : Nat) (e : TypeId) (i : TypeInfo) (z : Value) (size bytes : Nat) (ht : P.underlying t = some (.slice e)) (hi : P.info? e = some i) (hz : i.zero = some z)
    (hsize : i.size = size) (hby : i.bytes = bytes) (hzs : z.cells.size = size) (hs0 : 0 < size)
    (v : Value) (n : Nat) (xs : List Value) (hown : w.ownsRow base e size v n xs)
    (B : Nat) (A : Option Addr) (m c : Nat) (news : List Value) (hl : news.length = m * size) (hh : Has w B A news) (hn : A = none → c = 0) (h1 : ∀ u ∈ news, u.oneCell' = true)
    (h63 : n + m ≤ maxLen) (hbytes : (n + m) * bytes ≤ 140737488355328) (hbase : base ≤ w.heap.size) :
    ∃ v' w', (Builtin.append_ #[t, t] ty #[v, .slice A m c]).run P w = .ok v' w' ∧ w'.ownsRow base e size v' (n + m) (xs ++ news) ∧ w.grownBy w' v.ownBlock ∧ (v'.ownBlock = v.ownBlock ∨ v'.ownBlock = some w.heap.size) := by
  cases A with
  | none =>
    have hm : news = [] := by
      cases news with
      | nil => rfl
      | cons u r =>
        obtain ⟨_, hA, _⟩ := hh 0 u rfl
        cases hA
    subst hm
    obtain rfl : m = 0 := by
      have : m * size = 0 := by simpa using hl.symm
      rcases Nat.mul_eq_zero.1 this with h | h <;> omega
    obtain rfl := hn rfl
    exact ⟨v, w, run_append_owned_none (P := P) (w := w) base t ty e i size ht hi v n xs hown, by simpa using hown, World.grownBy.refl w _, Or.inl rfl⟩
  | some ad =>
    obtain ⟨v', w', h2, h3, h4, _, h5⟩ := run_append_own_at (P := P) w base t ty e i z size bytes ht hi hz hsize hby hzs hs0 v n xs hown ad m c news hl (fun j u hu => by
      obtain ⟨_, hA, _, hc⟩ := hh j u hu
      cases hA
      exact hc) h1 h63 hbytes hbase
    exact ⟨v', w', h2, h3, h4, h5⟩
theorem wpList_apps {P : Program} {w : World} {ops : Array Oper} {rest : List Oper} {o : Oper} {a : Act} {Q : Exit → Act → World → Prop} (hgd : o.guard = none) (s x : Operand) (t : TypeId)
    (ho : o.op = .call { callee := .builtin .append, args := #[s, x], argTypes := #[t, t] })
    (base : Nat) (e : TypeId) (i : TypeInfo) (z : Value) (size bytes : Nat) (ht : P.underlying t = some (.slice e)) (hi : P.info? e = some i) (hz : i.zero = some z)
    (hsize : i.size = size) (hby : i.bytes = bytes) (hzs : z.cells.size = size) (hs0 : 0 < size)
    (v : Value) (n : Nat) (xs : List Value) (hs : a.eval s = v) (hown : w.ownsRow base e size v n xs)
    (B : Nat) (A : Option Addr) (m c : Nat) (news : List Value) (hx : a.eval x = .slice A m c) (hl : news.length = m * size) (hh : Has w B A news) (hn : A = none → c = 0) (h1 : ∀ u ∈ news, u.oneCell' = true)
    (h63 : n + m ≤ maxLen) (hbytes : (n + m) * bytes ≤ 140737488355328) (hbase : base ≤ w.heap.size)
    (h : ∀ v' w', w'.ownsRow base e size v' (n + m) (xs ++ news) → w.grownBy w' v.ownBlock → (v'.ownBlock = v.ownBlock ∨ v'.ownBlock = some w.heap.size) → wpList P ops Q rest (a.put o.dst v') w') : wpList P ops Q (o :: rest) a w := by
  refine wpList_plain hgd fun K hK => ?_
  obtain ⟨v', w', hr, h2, h3, h4⟩ := run_apps (P := P) (w := w) t o.type base e i z size bytes ht hi hz hsize hby hzs hs0 v n xs hown B A m c news hl hh hn h1 h63 hbytes hbase
  unfold Oper.wp
  simp [execOp, ho, resolve, invoke, builtin, hs, hx, hr, Result.andThen]
  exact hK _ _ (h v' w' h2 h3 h4)

end Go.Proofs.YtbegjadohamkkaaGreat
/- The contract of slices.Clone at requests. -/
namespace Go.Proofs.YtbegjadohamkkaaGreat
open Go.RowKit

set_option maxHeartbeats 400000 in
set_option maxRecDepth 100000 in
theorem mq_clone {A : Option Addr} {c n B : Nat} {zs : List Rq} {w : World} (h1 : Has w B A (reqCells zs)) (hn : zs.length = n) (hm : n ≤ 1000000) :
    Calls Tryz.prog 124 #[.slice A n c] w fun e w' => ∃ v, e = .returned v ∧ w'.ownsRow w.heap.size 69 6 v n (reqCells zs) ∧ Below w.heap.size w w' := by
  have hq := fun (w : World) => Lib.run_eql_slice_nil w 22 69 A n c 0 0 Tryz.underlying22
  cases A with
  | none =>
    have hz : zs = [] := by
      cases zs with
      | nil => rfl
      | cons z r =>
        obtain ⟨_, hA, _⟩ := h1 0 _ (show (reqCells (z :: r))[0]? = some (.int .i64 z.cl) from rfl)
        cases hA
    subst hz
    have hn0 : n = 0 := by simpa using hn.symm
    subst hn0
    go_enter Tryz.func124, Tryz.ntmps124
    go_wp2
    go_ret
    exact ⟨_, rfl, World.ownsRow_nil _ _ _ _, Below.refl _ _⟩
  | some ad =>
    obtain ⟨i0, hi0, hx0, hx1, hx2⟩ := info_parts info_req
    have hL : (reqCells zs).length = n * 6 := by rw [reqCells_len, hn]
    have h6 := reqCells_one zs
    have hh := h1.tight.below ((Below.refl _ _).alloc (Nat.le_refl _) (.cells #[] 69)) (Nat.le_refl _)
    have ho := World.ownsRow_made (e := 69) (size := 6) w #[] 0 (Nat.le_refl _) (by unfold maxLen; omega) (by simp)
    have HB := Lib.hid (show Below w.heap.size w (w.alloc (.cells #[] 69)) from (Below.refl _ _).alloc (Nat.le_refl _) _)
    have HO := Lib.hid ho
    have HH := Lib.hid hh
    have H6 := Lib.hid h6
    have HLn := Lib.hid hL
    have hm1 := Lib.hid (show 0 + n ≤ maxLen by unfold maxLen; omega)
    have hm2 := Lib.hid (show (0 + n) * 48 ≤ 140737488355328 by omega)
    clear ho hh h6 hL h1
    go_enter Tryz.func124, Tryz.ntmps124
    go_wp2_with (at_builtin; refine wpList_apps rfl _ _ 22 rfl w.heap.size 69 i0 _ 6 48 Tryz.underlying22 hi0 hx0 hx1 hx2 rfl (by decide) _ 0 [] rfl HO.out _ (some ad) n c (reqCells zs) rfl HLn.out HH.out (fun e => by cases e) H6.out hm1.out hm2.out HB.out.size ?_)
    intro v w1 ho hg _
    have HR := Lib.hid ho
    have HG := Lib.hid (HB.out.grown hg HB.out.size (fun k hk => by cases hk; exact Nat.le_refl _))
    clear ho hg
    go_wp2
    go_ret
    exact ⟨v, rfl, HR.out, HG.out⟩
end Go.Proofs.YtbegjadohamkkaaGreat
/- The contracts of the document's Sealed and Right. -/
namespace Go.Proofs.YtbegjadohamkkaaGreat
open Go.RowKit

/-- The bytes that a client seals, where there are any. -/
def bodyS (r : Rq) : Option (List Int) := bytesOf r.bare.toks
def sealedS (r : Rq) (n : Int) (L : List Deed) : Bool := validS r n && (match bodyS r with
  | some bs => checkS L (100 + r.cl, strOfNums bs) r.sg
  | none => false)
theorem body_small {r : Rq} {bs : List Int} (h : bodyS r = some bs) : 0 ≤ r.cl ∧ r.cl < 1099511627776 := by
  unfold bodyS bytesOf at h
  cases hc : codes r.bare.toks with
  | none => rw [hc] at h; cases h
  | some ns =>
    obtain ⟨n, rs, h1, _, _⟩ := codes_cons.1 (show codes (.num r.cl :: _) = some ns from hc)
    obtain ⟨h2, h3⟩ := code_num.1 h1
    omega
theorem body_len {r : Rq} {bs : List Int} (h : bodyS r = some bs) : bs.length ≤ 36 := bytesOf_len h
theorem sealedS_no {r : Rq} {n : Int} {L : List Deed} (h : validS r n = false) : sealedS r n L = false := by unfold sealedS; rw [h]; rfl
theorem sealedS_none {r : Rq} {n : Int} {L : List Deed} (h : bodyS r = none) : sealedS r n L = false := by unfold sealedS; rw [h]; cases validS r n <;> rfl
theorem sealedS_some {r : Rq} {n : Int} {L : List Deed} {bs : List Int} (h : validS r n = true) (hb : bodyS r = some bs) : sealedS r n L = checkS L (100 + r.cl, strOfNums bs) r.sg := by unfold sealedS; rw [h, hb]; rfl

set_option maxHeartbeats 1000000 in
theorem rsealed_any {R : Nat → Prop} {w : World} {rb : Nat} {L : List Deed} (h : Rf R w rb L) (hnd : L.Nodup) (r : Rq) (hr : fit r.sg) (n : Int) :
    Calls Tryz.prog 148 #[.agg #[.int .i64 r.cl, .int .i64 r.tm, .int .i64 r.kd, .int .i64 r.ky, .int .i64 r.vl, .int .i64 r.sg], .int .i64 n, .pointer (some ⟨rb, 0, none⟩)] w fun e w' => e = .returned (.bool (sealedS r n L)) ∧ Below w.heap.size w w' := by
  have HBl := Lib.hid (fun (cs : Array Value) => show Below w.heap.size w (w.alloc (.cells cs 69)) from (Below.refl _ _).alloc (Nat.le_refl _) _)
  have HR := Lib.hid h
  have HF := Lib.hid hr
  have HN := Lib.hid hnd
  have HV := Lib.hid (fun w => rvalid_any r n w)
  clear h hr hnd
  cases hv : validS r n
  · have HS := Lib.hid (sealedS_no (L := L) hv)
    rw [hv] at HV
    rw [HS.out]
    clear hv
    go_enter Tryz.func148, Tryz.ntmps148
    go_wp2_with fail
    refine (HV.out _).mono ?_
    rintro e w2 ⟨rfl, hb2⟩
    have HB2 := Lib.hid ((HBl.out _).trans (hb2.mono (HBl.out _).size))
    clear hb2
    go_wp2_with fail
    go_ret
    exact ⟨rfl, HB2.out⟩
  · rw [hv] at HV
    have HVv := Lib.hid hv
    clear hv
    go_enter Tryz.func148, Tryz.ntmps148
    go_wp2_with fail
    have HX := Lib.hid (show Blk (w.alloc (.cells #[.int .i64 r.cl, .int .i64 r.tm, .int .i64 r.kd, .int .i64 r.ky, .int .i64 r.vl, .int .i64 r.sg] 69)) w.heap.size 69 #[.int .i64 r.cl, .int .i64 r.tm, .int .i64 r.kd, .int .i64 r.ky, .int .i64 r.vl, .int .i64 r.sg] from Blk.new _ _ _)
    refine (HV.out _).mono ?_
    rintro e w2 ⟨rfl, hb2⟩
    have HB2 := Lib.hid ((HBl.out _).trans (hb2.mono (HBl.out _).size))
    have hx2 := HX.out.below hb2 HX.out.lt
    have HX2 := Lib.hid hx2
    have d0 := hx2.cell 0
    have d1 := hx2.cell 1
    have d2 := hx2.cell 2
    have d3 := hx2.cell 3
    have d4 := hx2.cell 4
    have d5 := hx2.cell 5
    simp only [List.getElem?_toArray, List.getElem?_cons_zero, List.getElem?_cons_succ] at d0 d1 d2 d3 d4 d5
    clear hb2 hx2 HX
    go_wp2_with fail
    refine (rbody_any r _).mono ?_
    rintro e w3 hp
    have HB3 := Lib.hid (HB2.out.trans (hp.1.mono HB2.out.size))
    have hx3 := HX2.out.below hp.1 HX2.out.lt
    have e0 := hx3.cell 0
    have e5 := hx3.cell 5
    simp only [List.getElem?_toArray, List.getElem?_cons_zero, List.getElem?_cons_succ] at e0 e5
    clear hx3 d0 d1 d2 d3 d4 d5
    rcases hp with ⟨_, ⟨bs, A, c, hbs, rfl, ho⟩ | ⟨hno, rfl⟩⟩
    · obtain ⟨hs1, hs2⟩ := body_small hbs
      have HS := Lib.hid (sealedS_some (L := L) HVv.out hbs)
      have HP := Lib.hid (rcheck_any (HR.out.below HB3.out) HN.out (p := 100 + r.cl) (c := c) HF.out (Has.own ho) rfl)
      clear hbs ho
      go_wp2_with fail
      refine HP.out.mono ?_
      rintro e w4 ⟨rfl, m, rfl⟩
      go_wp2_with fail
      go_ret
      exact ⟨by rw [HS.out]; rfl, HB3.out.trans ⟨rfl, rfl, rfl, Nat.le_refl _, fun _ _ => rfl⟩⟩
    · have HS := Lib.hid (sealedS_none (L := L) (n := n) hno)
      clear hno
      go_wp2_with fail
      go_ret
      exact ⟨by rw [HS.out]; rfl, HB3.out⟩

def rightS (l : List Rq) (most n : Int) (L : List Deed) : Bool := decide ((l.length : Int) ≤ most) && risesR l && l.all (fun r => sealedS r n L)
theorem right_next {l : List Rq} {n : Int} {L : List Deed} {k : Nat} {r : Rq} (h : l[k]? = some r) : (l.take (k + 1)).all (fun r => sealedS r n L) = ((l.take k).all (fun r => sealedS r n L) && sealedS r n L) := by
  rw [List.take_add_one, h, List.all_append]
  simp
theorem right_far {l : List Rq} {n : Int} {L : List Deed} {k : Nat} {r : Rq} (h : l[k]? = some r) (hs : sealedS r n L = false) : l.all (fun r => sealedS r n L) = false := by
  rw [List.all_eq_false]
  exact ⟨r, List.mem_of_getElem? h, by rw [hs]; simp⟩
structure RtSt (w : World) (l : List Rq) (n : Int) (L : List Deed) (k : Nat) (wr : World) : Prop where
  low : Below w.heap.size w wr
  all : (l.take k).all (fun r => sealedS r n L) = true
set_option maxHeartbeats 1000000 in
theorem rright_any {R : Nat → Prop} {w : World} {rb : Nat} {L : List Deed} (h : Rf R w rb L) (hnd : L.Nodup) (A : Option Addr) (c : Nat) (zs : List Rq) (B : Nat) (hl : zs.length ≤ 9223372036854775806) (h1 : Has w B A (reqCells zs)) (hf : ∀ r ∈ zs, fit r.sg) (most n : Int) :
    Calls Tryz.prog 106 #[.slice A zs.length c, .int .i64 most, .int .i64 n, .pointer (some ⟨rb, 0, none⟩)] w fun e w' => e = .returned (.bool (rightS zs most n L)) ∧ Below w.heap.size w w' := by
  have H1 := Lib.hid h1.tight
  have HR := Lib.hid h
  have HF := Lib.hid hf
  have HN := Lib.hid hnd
  have HC := Lib.hid (rrises_any A c zs B w hl h1)
  clear h1 h hf hnd
  by_cases hm : (zs.length : Int) ≤ most
  · have t0 : decide (most < (zs.length : Int)) = false := decide_eq_false (by omega)
    cases hr : risesR zs
    · have HS := Lib.hid (show rightS zs most n L = false by unfold rightS; rw [hr]; simp)
      rw [hr] at HC
      rw [HS.out]
      clear hr
      go_enter Tryz.func106, Tryz.ntmps106
      go_wp2_with fail
      refine HC.out.mono ?_
      rintro e w2 ⟨rfl, hb2⟩
      have HB2 := Lib.hid hb2
      clear hb2
      go_wp2_with fail
      go_ret
      exact ⟨rfl, HB2.out⟩
    · have HS := Lib.hid (show rightS zs most n L = zs.all (fun r => sealedS r n L) by unfold rightS; rw [hr, decide_eq_true hm]; simp)
      rw [hr] at HC
      rw [HS.out]
      clear hr hm
      go_enter Tryz.func106, Tryz.ntmps106
      go_wp2_with fail
      refine HC.out.mono ?_
      rintro e w2 ⟨rfl, hb2⟩
      have HB2 := Lib.hid hb2
      clear hb2
      go_wp2_with fail
      go_loopw [9] (fun x wr => ∃ k : Nat, x = .int .i64 k ∧ k ≤ zs.length ∧ Hid (RtSt w zs n L k wr)) (fun x _ => zs.length - (intOf x).toNat)
      case atStart => exact ⟨0, rfl, Nat.zero_le _, HB2.out, by simp⟩
      case round =>
        obtain ⟨k, rfl, hk, HT⟩ := hrel
        by_cases hlt : k < zs.length
        · obtain ⟨a1, rfl, _, c0, c1, c2, c3, c4, c5⟩ := (H1.out.below HT.out.low (Nat.le_refl _)).req hlt
          have HX := Lib.hid (show zs[k]? = some zs[k] from List.getElem?_eq_getElem hlt)
          have hfx := HF.out _ (List.getElem_mem hlt)
          obtain ⟨x, hx⟩ : ∃ x, zs[k] = x := ⟨_, rfl⟩
          rw [hx] at c0 c1 c2 c3 c4 c5 HX hfx
          have HP := Lib.hid (rsealed_any (HR.out.below HT.out.low) HN.out x hfx n)
          clear hx hfx
          cases hs : sealedS x n L
          · have HE := Lib.hid (right_far HX.out hs)
            rw [hs] at HP
            clear hs
            go_wp2_with fail
            refine HP.out.mono ?_
            rintro e w3 ⟨rfl, hb3⟩
            have HB3 := Lib.hid (HT.out.low.trans (hb3.mono HT.out.low.size))
            clear hb3
            go_wp2_with fail
            go_ret
            exact ⟨by rw [HE.out]; rfl, HB3.out⟩
          · have HE := Lib.hid (show (zs.take (k + 1)).all (fun r => sealedS r n L) = true by rw [right_next HX.out, HT.out.all, hs]; rfl)
            rw [hs] at HP
            clear hs
            go_wp2_with fail
            refine HP.out.mono ?_
            rintro e w3 ⟨rfl, hb3⟩
            have HB3 := Lib.hid (HT.out.low.trans (hb3.mono HT.out.low.size))
            clear hb3
            go_wp2_with fail
            go_roundw
            case rel => exact ⟨k + 1, by go_num, by omega, HB3.out, HE.out⟩
            case measure => simp [intOf]; omega
        · have HE := Lib.hid (show zs.all (fun r => sealedS r n L) = true by have := HT.out.all; rwa [List.take_of_length_le (by omega)] at this)
          go_wp2_with fail
          go_ret
          exact ⟨by rw [HE.out]; rfl, HT.out.low⟩
  · have HS := Lib.hid (show rightS zs most n L = false by unfold rightS; rw [decide_eq_false hm]; rfl)
    have t0 : decide (most < (zs.length : Int)) = true := decide_eq_true (by omega)
    rw [HS.out]
    clear hm
    go_enter Tryz.func106, Tryz.ntmps106
    go_wp2_with fail
    go_ret
    exact ⟨rfl, Below.refl _ _⟩
end Go.Proofs.YtbegjadohamkkaaGreat
/- The contracts of cmp.Compare and cmp.Or at ints, and of reqs.Compare: what it leaves are new blocks alone. -/
namespace Go.Proofs.YtbegjadohamkkaaGreat
open Go.RowKit Go.Sort

def cmpI (x y : Int) : Int := if x < y then -1 else if y < x then 1 else 0
theorem int_cmp (x y : Int) (w : World) : Calls Tryz.prog 163 #[.int .i64 x, .int .i64 y] w fun e w' => e = .returned (.int .i64 (cmpI x y)) ∧ w' = w := by
  go_enter Tryz.func163, Tryz.ntmps163
  go_wp2
  all_goals go_ret
  all_goals refine ⟨congrArg (fun b => Ending.returned (.int .i64 b)) ?_, rfl⟩
  all_goals (unfold cmpI; repeat' split) <;> omega
def orS : List Int → Int
  | [] => 0
  | x :: l => if x = 0 then orS l else x
theorem orS_zero {x : Int} {l m : List Int} (h : l = x :: m) (hx : x = 0) : orS l = orS m := by rw [h, orS, if_pos hx]
theorem orS_here {x : Int} {l m : List Int} (h : l = x :: m) (hx : x ≠ 0) : orS l = x := by rw [h, orS, if_neg hx]
set_option maxHeartbeats 400000 in
theorem int_or (A : Option Addr) (c : Nat) (zs : List Int) (B : Nat) (w : World) (hl : zs.length ≤ 9223372036854775806) (h1 : Has w B A (zs.map (Value.int .i64))) :
    Calls Tryz.prog 162 #[.slice A zs.length c] w fun e w' => e = .returned (.int .i64 (orS zs)) ∧ w' = w := by
  have H1 := Lib.hid h1
  clear h1
  go_enter Tryz.func162, Tryz.ntmps162
  go_wp2
  go_loopw [8] (fun x wr => ∃ k : Nat, x = .int .i64 k ∧ k ≤ zs.length ∧ wr = w ∧ Hid (orS zs = orS (zs.drop k))) (fun x _ => zs.length - (intOf x).toNat)
  case atStart => exact ⟨0, rfl, Nat.zero_le _, by trivial, rfl⟩
  case round =>
    obtain ⟨k, rfl, hk, rfl, HT⟩ := hrel
    by_cases hlt : k < zs.length
    · obtain ⟨ad, x, rfl, _, hc, hd, _⟩ := H1.out.int hlt
      by_cases hx : x = 0
      · have HN := Lib.hid (HT.out.trans (orS_zero hd hx))
        subst hx
        clear hd
        go_wp2
        go_roundw
        case rel => exact ⟨k + 1, by go_num, by omega, by trivial, HN.out⟩
        case measure => simp [intOf]; omega
      · have HN := Lib.hid (HT.out.trans (orS_here hd hx))
        clear hd
        go_wp2
        go_ret
        exact ⟨by rw [HN.out]; rfl, rfl⟩
    · have HN := Lib.hid (show orS zs = 0 by rw [HT.out, List.drop_eq_nil_of_le (by omega)]; rfl)
      go_wp2
      go_ret
      exact ⟨by rw [HN.out]; rfl, rfl⟩
theorem cmpL_or : ∀ {l m : List Int}, l.length = m.length → cmpL l m = orS (List.zipWith cmpI l m)
  | [], [], _ => rfl
  | x :: l, y :: m, h => by
    have ih := cmpL_or (l := l) (m := m) (by simpa using h)
    rw [List.zipWith_cons_cons, orS, ← ih, cmpL]
    unfold cmpI
    by_cases h1 : x < y
    · rw [if_pos h1, if_pos h1]; rfl
    · rw [if_neg h1, if_neg h1]
      by_cases h2 : y < x
      · rw [if_pos h2, if_pos h2]; rfl
      · rw [if_neg h2, if_neg h2]; rfl
theorem cmpR_or (a b : Rq) : cmpR a b = orS [cmpI a.cl b.cl, cmpI a.tm b.tm, cmpI a.kd b.kd, cmpI a.ky b.ky, cmpI a.vl b.vl, cmpI a.sg b.sg] := cmpL_or (l := a.key) (m := b.key) rfl
theorem or_six (W : World) (c1 c2 c3 c4 c5 c6 : Int) : Calls Tryz.prog 162 #[.slice (some ⟨W.heap.size, 0, none⟩) 6 6] (W.alloc (.cells #[.int .i64 c1, .int .i64 c2, .int .i64 c3, .int .i64 c4, .int .i64 c5, .int .i64 c6] 3)) fun e w' => e = .returned (.int .i64 (orS [c1, c2, c3, c4, c5, c6])) ∧ w' = W.alloc (.cells #[.int .i64 c1, .int .i64 c2, .int .i64 c3, .int .i64 c4, .int .i64 c5, .int .i64 c6] 3) :=
  int_or (some ⟨W.heap.size, 0, none⟩) 6 [c1, c2, c3, c4, c5, c6] (W.heap.size + 1) _ (by simp) (Has.fresh W #[.int .i64 c1, .int .i64 c2, .int .i64 c3, .int .i64 c4, .int .i64 c5, .int .i64 c6] 3)
theorem below_grow (w : World) (q : Nat) (os : Array Obj) : Below w.heap.size w (grow (w.drewN q) os) := by
  refine ⟨rfl, rfl, rfl, ?_, fun k hk => ?_⟩
  · show w.heap.size ≤ (w.heap ++ os).size
    simp
  · show (w.heap ++ os)[k]? = _
    rw [Array.getElem?_append_left hk]
set_option maxHeartbeats 4000000 in
theorem compare_grow (a b : Rq) (w : World) :
    Calls Tryz.prog 120 #[.agg #[.int .i64 a.cl, .int .i64 a.tm, .int .i64 a.kd, .int .i64 a.ky, .int .i64 a.vl, .int .i64 a.sg], .agg #[.int .i64 b.cl, .int .i64 b.tm, .int .i64 b.kd, .int .i64 b.ky, .int .i64 b.vl, .int .i64 b.sg]] w fun e w' => e = .returned (.int .i64 (cmpR a b)) ∧ ∃ q os, w' = grow (w.drewN q) os := by
  have K1 := Lib.hid (fun w => int_cmp a.cl b.cl w)
  have K2 := Lib.hid (fun w => int_cmp a.tm b.tm w)
  have K3 := Lib.hid (fun w => int_cmp a.kd b.kd w)
  have K4 := Lib.hid (fun w => int_cmp a.ky b.ky w)
  have K5 := Lib.hid (fun w => int_cmp a.vl b.vl w)
  have K6 := Lib.hid (fun w => int_cmp a.sg b.sg w)
  have HR := Lib.hid (cmpR_or a b)
  obtain ⟨c1, hc1⟩ : ∃ c, cmpI a.cl b.cl = c := ⟨_, rfl⟩
  obtain ⟨c2, hc2⟩ : ∃ c, cmpI a.tm b.tm = c := ⟨_, rfl⟩
  obtain ⟨c3, hc3⟩ : ∃ c, cmpI a.kd b.kd = c := ⟨_, rfl⟩
  obtain ⟨c4, hc4⟩ : ∃ c, cmpI a.ky b.ky = c := ⟨_, rfl⟩
  obtain ⟨c5, hc5⟩ : ∃ c, cmpI a.vl b.vl = c := ⟨_, rfl⟩
  obtain ⟨c6, hc6⟩ : ∃ c, cmpI a.sg b.sg = c := ⟨_, rfl⟩
  rw [hc1] at K1 HR
  rw [hc2] at K2 HR
  rw [hc3] at K3 HR
  rw [hc4] at K4 HR
  rw [hc5] at K5 HR
  rw [hc6] at K6 HR
  clear hc1 hc2 hc3 hc4 hc5 hc6
  obtain ⟨cr, hcr⟩ : ∃ c, orS [c1, c2, c3, c4, c5, c6] = c := ⟨_, rfl⟩
  have KO := Lib.hid (fun W => or_six W c1 c2 c3 c4 c5 c6)
  rw [hcr] at HR KO
  clear hcr
  go_enter Tryz.func120, Tryz.ntmps120
  go_wp2_with fail
  have HB0 := Lib.hid (show Blk ((w.alloc (.cells #[.int .i64 a.cl, .int .i64 a.tm, .int .i64 a.kd, .int .i64 a.ky, .int .i64 a.vl, .int .i64 a.sg] 69)).alloc (.cells #[.int .i64 b.cl, .int .i64 b.tm, .int .i64 b.kd, .int .i64 b.ky, .int .i64 b.vl, .int .i64 b.sg] 69)) w.heap.size 69 _ ∧ Blk ((w.alloc (.cells #[.int .i64 a.cl, .int .i64 a.tm, .int .i64 a.kd, .int .i64 a.ky, .int .i64 a.vl, .int .i64 a.sg] 69)).alloc (.cells #[.int .i64 b.cl, .int .i64 b.tm, .int .i64 b.kd, .int .i64 b.ky, .int .i64 b.vl, .int .i64 b.sg] 69)) (w.heap.size + 1) 69 _ from
    ⟨(Blk.new w _ _).alloc _, Blk.new1 w _ _ _⟩)
  have HG0 := Lib.hid (show ∃ os, ((w.alloc (.cells #[.int .i64 a.cl, .int .i64 a.tm, .int .i64 a.kd, .int .i64 a.ky, .int .i64 a.vl, .int .i64 a.sg] 69)).alloc (.cells #[.int .i64 b.cl, .int .i64 b.tm, .int .i64 b.kd, .int .i64 b.ky, .int .i64 b.vl, .int .i64 b.sg] 69)) = grow w os from
    ⟨_, by rw [alloc_eq_grow, alloc_eq_grow, grow_grow]⟩)
  obtain ⟨w1, hw1⟩ : ∃ w1, (w.alloc (.cells #[.int .i64 a.cl, .int .i64 a.tm, .int .i64 a.kd, .int .i64 a.ky, .int .i64 a.vl, .int .i64 a.sg] 69)).alloc (.cells #[.int .i64 b.cl, .int .i64 b.tm, .int .i64 b.kd, .int .i64 b.ky, .int .i64 b.vl, .int .i64 b.sg] 69) = w1 := ⟨_, rfl⟩
  rw [hw1] at HB0 HG0 ⊢
  clear hw1
  obtain ⟨g1, hg1⟩ : ∃ g1, w.heap.size = g1 := ⟨_, rfl⟩
  obtain ⟨g2, hg2⟩ : ∃ g2, w.heap.size + 1 = g2 := ⟨_, rfl⟩
  rw [hg2, hg1] at HB0 ⊢
  clear hg1 hg2
  have d0 := HB0.out.1.cell 0
  have d1 := HB0.out.1.cell 1
  have d2 := HB0.out.1.cell 2
  have d3 := HB0.out.1.cell 3
  have d4 := HB0.out.1.cell 4
  have d5 := HB0.out.1.cell 5
  have e0 := HB0.out.2.cell 0
  have e1 := HB0.out.2.cell 1
  have e2 := HB0.out.2.cell 2
  have e3 := HB0.out.2.cell 3
  have e4 := HB0.out.2.cell 4
  have e5 := HB0.out.2.cell 5
  simp only [List.getElem?_toArray, List.getElem?_cons_zero, List.getElem?_cons_succ] at d0 d1 d2 d3 d4 d5 e0 e1 e2 e3 e4 e5
  clear HB0
  go_region_held3 (fun w' => w'.cell? ⟨g1, 0, none⟩ = some (.int .i64 a.cl) ∧ w'.cell? ⟨g1, 1, none⟩ = some (.int .i64 a.tm) ∧ w'.cell? ⟨g1, 2, none⟩ = some (.int .i64 a.kd) ∧ w'.cell? ⟨g1, 3, none⟩ = some (.int .i64 a.ky) ∧ w'.cell? ⟨g1, 4, none⟩ = some (.int .i64 a.vl) ∧ w'.cell? ⟨g1, 5, none⟩ = some (.int .i64 a.sg) ∧ w'.cell? ⟨g2, 0, none⟩ = some (.int .i64 b.cl) ∧ w'.cell? ⟨g2, 1, none⟩ = some (.int .i64 b.tm) ∧ w'.cell? ⟨g2, 2, none⟩ = some (.int .i64 b.kd) ∧ w'.cell? ⟨g2, 3, none⟩ = some (.int .i64 b.ky) ∧ w'.cell? ⟨g2, 4, none⟩ = some (.int .i64 b.vl) ∧ w'.cell? ⟨g2, 5, none⟩ = some (.int .i64 b.sg))
    (go_keep)
    (first | (go_at_call 163; (with_reducible refine (K1.out _).mono ?_); rintro e w' ⟨rfl, rfl⟩)
           | (go_at_call 163; (with_reducible refine (K2.out _).mono ?_); rintro e w' ⟨rfl, rfl⟩)
           | (go_at_call 163; (with_reducible refine (K3.out _).mono ?_); rintro e w' ⟨rfl, rfl⟩)
           | (go_at_call 163; (with_reducible refine (K4.out _).mono ?_); rintro e w' ⟨rfl, rfl⟩)
           | (go_at_call 163; (with_reducible refine (K5.out _).mono ?_); rintro e w' ⟨rfl, rfl⟩)
           | (go_at_call 163; (with_reducible refine (K6.out _).mono ?_); rintro e w' ⟨rfl, rfl⟩)
           | (go_at_call 162; refine (KO.out w1.drew).mono ?_; rintro e w' ⟨rfl, rfl⟩))
  go_wp2_with fail
  go_ret
  obtain ⟨os, hos⟩ := HG0.out
  exact ⟨by rw [HR.out]; rfl, 1, _, by rw [hos, alloc_eq_grow]; exact (grow_grow (w.drewN 1) os _)⟩
theorem rq_compare (a b : Rq) (w : World) :
    Calls Tryz.prog 120 #[.agg #[.int .i64 a.cl, .int .i64 a.tm, .int .i64 a.kd, .int .i64 a.ky, .int .i64 a.vl, .int .i64 a.sg], .agg #[.int .i64 b.cl, .int .i64 b.tm, .int .i64 b.kd, .int .i64 b.ky, .int .i64 b.vl, .int .i64 b.sg]] w fun e w' => e = .returned (.int .i64 (cmpR a b)) ∧ Below w.heap.size w w' :=
  (compare_grow a b w).mono fun _ _ ⟨he, q, os, hw⟩ => ⟨he, hw ▸ below_grow w q os⟩
end Go.Proofs.YtbegjadohamkkaaGreat
/- What the walks of layer 5 ask of package reqs; the law's own example; keep.Copy at requests. -/
namespace Go.Proofs.YtbegjadohamkkaaGreat
open Go.RowKit

def Rq.with (r : Rq) (s : Int) : Rq := { r with sg := s }
theorem fit_small {z : Int} (h1 : -9223372036854775808 ≤ z) (h2 : z ≤ 9223372036854775807) : fit z := by unfold fit Lit.wf; simp [IntKind.min, IntKind.max, IntKind.signed, IntKind.bits]; omega
end Go.Proofs.YtbegjadohamkkaaGreat
/- The contracts of reqs.Body, Sealed, Make, Batch. -/
namespace Go.Proofs.YtbegjadohamkkaaGreat
open Go.RowKit Go.Sort

set_option maxHeartbeats 400000 in
theorem rq_body (r : Rq) (w : World) :
    Calls Tryz.prog 160 #[.agg #[.int .i64 r.cl, .int .i64 r.tm, .int .i64 r.kd, .int .i64 r.ky, .int .i64 r.vl, .int .i64 r.sg]] w (BytesPost r.bare.toks w) := by
  have HB := Lib.hid (fun (cs : Array Value) => show Below w.heap.size w (w.alloc (.cells cs 69)) from (Below.refl _ _).alloc (Nat.le_refl _) _)
  go_enter Tryz.func160, Tryz.ntmps160
  go_wp2_with fail
  refine (pack_req r.bare _).mono ?_
  rintro e w1 hp
  have HP := Lib.hid (hp.back (HB.out _))
  rcases hp with ⟨_, ⟨bs, A, c, _, rfl, _⟩ | ⟨_, rfl⟩⟩
  all_goals
    go_wp2_with fail
    go_ret2
    exact HP.out
theorem party_small {r : Rq} {bs : List Int} (h : bodyS r = some bs) : fit (100 + r.cl) ∧ wrap64 (100 + r.cl) = 100 + r.cl := by
  obtain ⟨h1, h2⟩ := body_small h
  exact ⟨fit_small (by omega) (by omega), by unfold wrap64; omega⟩
theorem rq_party (c : Int) (h : wrap64 (100 + c) = 100 + c) (w : World) : Calls Tryz.prog 161 #[.int .i64 c] w fun e w' => e = .returned (.int .i64 (100 + c)) ∧ w' = w := by
  go_enter Tryz.func161, Tryz.ntmps161
  go_wp2
  go_ret
  exact ⟨by first | rfl | (rw [h]; rfl), rfl⟩
set_option maxHeartbeats 2000000 in
theorem rq_sealed {w : World} {nb bm : Nat} {L : List Deed} (h : Nt w nb bm L) (r : Rq) (n : Int) :
    Calls Tryz.prog 119 #[.agg #[.int .i64 r.cl, .int .i64 r.tm, .int .i64 r.kd, .int .i64 r.ky, .int .i64 r.vl, .int .i64 r.sg], .int .i64 n, .pointer (some ⟨nb, 0, none⟩)] w fun e w' => e = .returned (.bool (sealedS r n L)) ∧ Below w.heap.size w w' := by
  have HBl := Lib.hid (fun (cs : Array Value) => show Below w.heap.size w (w.alloc (.cells cs 69)) from (Below.refl _ _).alloc (Nat.le_refl _) _)
  have HR := Lib.hid h
  have HV := Lib.hid (fun w => rq_valid r n w)
  clear h
  cases hv : validS r n
  · have HS := Lib.hid (sealedS_no (L := L) hv)
    rw [hv] at HV
    rw [HS.out]
    clear hv
    go_enter Tryz.func119, Tryz.ntmps119
    go_wp2_with fail
    refine (HV.out _).mono ?_
    rintro e w2 ⟨rfl, hb2⟩
    have HB2 := Lib.hid ((HBl.out _).trans (hb2.mono (HBl.out _).size))
    clear hb2
    go_wp2_with fail
    go_ret
    exact ⟨rfl, HB2.out⟩
  · rw [hv] at HV
    have HVv := Lib.hid hv
    clear hv
    go_enter Tryz.func119, Tryz.ntmps119
    go_wp2_with fail
    have HX := Lib.hid (show Blk (w.alloc (.cells #[.int .i64 r.cl, .int .i64 r.tm, .int .i64 r.kd, .int .i64 r.ky, .int .i64 r.vl, .int .i64 r.sg] 69)) w.heap.size 69 #[.int .i64 r.cl, .int .i64 r.tm, .int .i64 r.kd, .int .i64 r.ky, .int .i64 r.vl, .int .i64 r.sg] from Blk.new _ _ _)
    refine (HV.out _).mono ?_
    rintro e w2 ⟨rfl, hb2⟩
    have HB2 := Lib.hid ((HBl.out _).trans (hb2.mono (HBl.out _).size))
    have hx2 := HX.out.below hb2 HX.out.lt
    have HX2 := Lib.hid hx2
    have d0 := hx2.cell 0
    have d1 := hx2.cell 1
    have d2 := hx2.cell 2
    have d3 := hx2.cell 3
    have d4 := hx2.cell 4
    have d5 := hx2.cell 5
    simp only [List.getElem?_toArray, List.getElem?_cons_zero, List.getElem?_cons_succ] at d0 d1 d2 d3 d4 d5
    clear hb2 hx2 HX
    go_wp2_with fail
    refine (rq_body r _).mono ?_
    rintro e w3 hp
    have HB3 := Lib.hid (HB2.out.trans (hp.1.mono HB2.out.size))
    have hx3 := HX2.out.below hp.1 HX2.out.lt
    have e0 := hx3.cell 0
    have e5 := hx3.cell 5
    simp only [List.getElem?_toArray, List.getElem?_cons_zero, List.getElem?_cons_succ] at e0 e5
    clear hx3 d0 d1 d2 d3 d4 d5
    rcases hp with ⟨_, ⟨bs, A, c, hbs, rfl, ho⟩ | ⟨hno, rfl⟩⟩
    · have HS := Lib.hid (sealedS_some (L := L) HVv.out hbs)
      have hw64 := (party_small hbs).2
      have HP := Lib.hid (fun m => check_any ((HR.out.below HB3.out).drewN m) (p := 100 + r.cl) (k := r.sg) (c := c) (party_small hbs).1 ((Has.own ho).drewN m) rfl (by have := body_len hbs; unfold maxLen; omega))
      clear hbs ho
      go_wp2_with fail
      have KP := Lib.hid (fun w => rq_party r.cl hw64 w)
      go_region_held3 (fun w' => w'.cell? ⟨w.heap.size, 0, none⟩ = some (.int .i64 r.cl) ∧ w'.cell? ⟨w.heap.size, 5, none⟩ = some (.int .i64 r.sg)) (go_keep)
        (first | (go_at_call 57; refine (HP.out 1).mono ?_; rintro e w4 ⟨rfl, m, rfl⟩)
               | (go_at_call 161; refine (KP.out _).mono ?_; rintro e w' ⟨rfl, rfl⟩))
      go_wp2_with fail
      go_ret
      exact ⟨by rw [HS.out]; rfl, HB3.out.trans ⟨rfl, rfl, rfl, Nat.le_refl _, fun _ _ => rfl⟩⟩
    · have HS := Lib.hid (sealedS_none (L := L) (n := n) hno)
      clear hno
      go_wp2_with fail
      go_quiet (fail)
      go_wp2_with fail
      go_ret
      exact ⟨by rw [HS.out]; rfl, HB3.out.trans ⟨rfl, rfl, rfl, Nat.le_refl _, fun _ _ => rfl⟩⟩
end Go.Proofs.YtbegjadohamkkaaGreat
/- The contract of reqs.Batch. -/
namespace Go.Proofs.YtbegjadohamkkaaGreat
open Go.RowKit Go.Sort

theorem blk_cells6 {w : World} {g t : Nat} {r : Rq} (h : Blk w g t #[.int .i64 r.cl, .int .i64 r.tm, .int .i64 r.kd, .int .i64 r.ky, .int .i64 r.vl, .int .i64 r.sg]) : w.cell? ⟨g, 0, none⟩ = some (.int .i64 r.cl) ∧ w.cell? ⟨g, 1, none⟩ = some (.int .i64 r.tm) ∧ w.cell? ⟨g, 2, none⟩ = some (.int .i64 r.kd) ∧ w.cell? ⟨g, 3, none⟩ = some (.int .i64 r.ky) ∧ w.cell? ⟨g, 4, none⟩ = some (.int .i64 r.vl) ∧ w.cell? ⟨g, 5, none⟩ = some (.int .i64 r.sg) :=
  ⟨h.cell 0, h.cell 1, h.cell 2, h.cell 3, h.cell 4, h.cell 5⟩
theorem six_of {a : Addr} {p : Nat} {w : World} {v0 v1 v2 v3 v4 v5 : Value} {B : Nat} (h : ∃ ad, some a = some ad ∧ ad.block < B ∧ w.cell? (ad.add p) = some v0 ∧ w.cell? ⟨(ad.add p).block, (ad.add p).off + 1, none⟩ = some v1 ∧ w.cell? ⟨(ad.add p).block, (ad.add p).off + 2, none⟩ = some v2 ∧ w.cell? ⟨(ad.add p).block, (ad.add p).off + 3, none⟩ = some v3 ∧ w.cell? ⟨(ad.add p).block, (ad.add p).off + 4, none⟩ = some v4 ∧ w.cell? ⟨(ad.add p).block, (ad.add p).off + 5, none⟩ = some v5) :
    w.cell? (a.add p) = some v0 ∧ w.cell? ⟨(a.add p).block, (a.add p).off + 1, none⟩ = some v1 ∧ w.cell? ⟨(a.add p).block, (a.add p).off + 2, none⟩ = some v2 ∧ w.cell? ⟨(a.add p).block, (a.add p).off + 3, none⟩ = some v3 ∧ w.cell? ⟨(a.add p).block, (a.add p).off + 4, none⟩ = some v4 ∧ w.cell? ⟨(a.add p).block, (a.add p).off + 5, none⟩ = some v5 := by
  obtain ⟨ad, e, _, h⟩ := h
  cases e
  exact h
theorem regrown6 {w : World} {a0 a1 a2 a3 a4 a5 : Addr} {v0 v1 v2 v3 v4 v5 : Value} (h : w.cell? a0 = some v0 ∧ w.cell? a1 = some v1 ∧ w.cell? a2 = some v2 ∧ w.cell? a3 = some v3 ∧ w.cell? a4 = some v4 ∧ w.cell? a5 = some v5) :
    (∀ d os, (grow (redrawn w d) os).cell? a0 = some v0) ∧ (∀ d os, (grow (redrawn w d) os).cell? a1 = some v1) ∧ (∀ d os, (grow (redrawn w d) os).cell? a2 = some v2) ∧ (∀ d os, (grow (redrawn w d) os).cell? a3 = some v3) ∧ (∀ d os, (grow (redrawn w d) os).cell? a4 = some v4) ∧ (∀ d os, (grow (redrawn w d) os).cell? a5 = some v5) :=
  ⟨cell_regrown h.1, cell_regrown h.2.1, cell_regrown h.2.2.1, cell_regrown h.2.2.2.1, cell_regrown h.2.2.2.2.1, cell_regrown h.2.2.2.2.2⟩
/-- One request more of a batch. -/
structure BaSt (w : World) (l : List Rq) (n : Int) (L : List Deed) (k : Nat) (wr : World) : Prop where
  low : Below w.heap.size w wr
  all : (l.take k).all (fun r => sealedS r n L) = true
  is : risesR l = risesR (l.drop (k - 1))
set_option maxHeartbeats 1600000 in
set_option maxRecDepth 100000 in
theorem rq_batch {w : World} {nb bm : Nat} {L : List Deed} (h : Nt w nb bm L) {A : Option Addr} {c B : Nat} {zs : List Rq} (h1 : Has w B A (reqCells zs)) (hl : zs.length ≤ 1000000) (m n : Int) :
    Calls Tryz.prog 63 #[.slice A zs.length c, .int .i64 m, .int .i64 n, .pointer (some ⟨nb, 0, none⟩)] w fun e w' => e = .returned (.bool (rightS zs m n L)) ∧ Below w.heap.size w w' := by
  have H1 := Lib.hid h1.tight
  have HR := Lib.hid h
  clear h1 h
  by_cases hm : (zs.length : Int) ≤ m
  · have t0 : decide (m < (zs.length : Int)) = false := decide_eq_false (by omega)
    have HM := Lib.hid (show rightS zs m n L = (risesR zs && zs.all (fun r => sealedS r n L)) by unfold rightS; rw [decide_eq_true hm, Bool.true_and])
    rw [HM.out]
    clear hm
    go_enter Tryz.func63, Tryz.ntmps63
    go_wp2_with fail
    go_loopw [17] (fun x wr => ∃ k : Nat, x = .int .i64 k ∧ k ≤ zs.length ∧ Hid (BaSt w zs n L k wr)) (fun x _ => zs.length - (intOf x).toNat)
    case atStart => exact ⟨0, rfl, Nat.zero_le _, Below.refl _ _, by simp, rfl⟩
    case round =>
      obtain ⟨k, rfl, hk, HT⟩ := hrel
      by_cases hlt : k < zs.length
      · have HH := H1.out.below HT.out.low (Nat.le_refl _)
        obtain ⟨a1, rfl, _, c0, c1, c2, c3, c4, c5⟩ := HH.req hlt
        have HX := Lib.hid (show zs[k]? = some zs[k] from List.getElem?_eq_getElem hlt)
        obtain ⟨x, hx⟩ : ∃ x, zs[k] = x := ⟨_, rfl⟩
        rw [hx] at c0 c1 c2 c3 c4 c5 HX
        have HXk := Lib.hid hx
        have HBx := Lib.hid (HT.out.low.alloc HT.out.low.size (.cells #[.int .i64 x.cl, .int .i64 x.tm, .int .i64 x.kd, .int .i64 x.ky, .int .i64 x.vl, .int .i64 x.sg] 69))
        have HNt := Lib.hid ((HR.out.below HT.out.low).below ((Below.refl _ _).alloc (Nat.le_refl _) (.cells #[.int .i64 x.cl, .int .i64 x.tm, .int .i64 x.kd, .int .i64 x.ky, .int .i64 x.vl, .int .i64 x.sg] 69)))
        have HBk := Lib.hid (Blk.new wr 69 #[.int .i64 x.cl, .int .i64 x.tm, .int .i64 x.kd, .int .i64 x.ky, .int .i64 x.vl, .int .i64 x.sg])
        clear hx HH
        cases hs : sealedS x n L
        · have HE := Lib.hid (right_far HX.out hs)
          go_wp2_with fail
          obtain ⟨w1, hw1⟩ : ∃ w1, wr.alloc (.cells #[.int .i64 x.cl, .int .i64 x.tm, .int .i64 x.kd, .int .i64 x.ky, .int .i64 x.vl, .int .i64 x.sg] 69) = w1 := ⟨_, rfl⟩
          obtain ⟨g, hg⟩ : ∃ g, wr.heap.size = g := ⟨_, rfl⟩
          rw [hw1] at HBx HNt HBk ⊢
          rw [hg] at HBk ⊢
          obtain ⟨d0, d1, d2, d3, d4, d5⟩ := regrown6 (blk_cells6 HBk.out)
          have KS := fun d os => Calls.regrown_of (rq_sealed (w := grow (redrawn w1 d) os) (HNt.out.below (below_regrown w1 d os)) x n)
          rw [hs] at KS
          clear hw1 hg HBk c0 c1 c2 c3 c4 c5 HNt hs
          refine wp_region_quiet_below (by kernel_rfl) (by kernel_rfl) ?_
          refine wq_out ?_
          iterate 3 (refine wq_do (by kernel_rfl) (fun K hK => ?_); go_simp; refine hK _ ?_; clear hK K)
          refine wq_do (by kernel_rfl) (fun K hK => ?_)
          go_simp
          apply Exists.intro
          refine ⟨fun a => ?_, hK _ ?_⟩
          · exact KS a.d a.os
          clear hK K
          iterate 2 (refine wq_do (by kernel_rfl) (fun K hK => ?_); go_simp; refine hK _ ?_; clear hK K)
          iterate 12 (refine wq_skip (by kernel_rfl) ?_)
          refine wq_do (by kernel_rfl) (fun K hK => ?_)
          go_simp
          refine hK _ ?_
          clear hK K
          refine wq_nil ?_
          intro _ hw'
          obtain ⟨⟨dq, osq⟩, hw''⟩ := hw'
          subst hw''
          have HB3 := Lib.hid (HBx.out.trans ((below_regrown w1 dq osq).mono HBx.out.size))
          clear KS d0 d1 d2 d3 d4 d5
          go_wp2_with fail
          go_ret
          exact ⟨by rw [HE.out, Bool.and_false]; rfl, HB3.out⟩
        · have HE := Lib.hid (show (zs.take (k + 1)).all (fun r => sealedS r n L) = true by rw [right_next HX.out, HT.out.all, hs]; rfl)
          by_cases hk0 : k = 0
          · have HRi := Lib.hid (show risesR zs = risesR (zs.drop (k + 1 - 1)) by rw [hk0]; rfl)
            have hkd : decide (0 < k) = false := decide_eq_false (by omega)
            have hkn : ¬ 0 < k := by omega
            clear hk0
            go_wp2_with fail
            obtain ⟨w1, hw1⟩ : ∃ w1, wr.alloc (.cells #[.int .i64 x.cl, .int .i64 x.tm, .int .i64 x.kd, .int .i64 x.ky, .int .i64 x.vl, .int .i64 x.sg] 69) = w1 := ⟨_, rfl⟩
            obtain ⟨g, hg⟩ : ∃ g, wr.heap.size = g := ⟨_, rfl⟩
            rw [hw1] at HBx HNt HBk ⊢
            rw [hg] at HBk ⊢
            obtain ⟨d0, d1, d2, d3, d4, d5⟩ := regrown6 (blk_cells6 HBk.out)
            have KS := fun d os => Calls.regrown_of (rq_sealed (w := grow (redrawn w1 d) os) (HNt.out.below (below_regrown w1 d os)) x n)
            rw [hs] at KS
            clear hw1 hg HBk c0 c1 c2 c3 c4 c5 HNt hs
            refine wp_region_quiet_below (by kernel_rfl) (by kernel_rfl) ?_
            refine wq_out ?_
            iterate 3 (refine wq_do (by kernel_rfl) (fun K hK => ?_); go_simp; refine hK _ ?_; clear hK K)
            refine wq_do (by kernel_rfl) (fun K hK => ?_)
            go_simp
            apply Exists.intro
            refine ⟨fun a => ?_, hK _ ?_⟩
            · exact KS a.d a.os
            clear hK K
            iterate 5 (refine wq_do (by kernel_rfl) (fun K hK => ?_); go_simp; refine hK _ ?_; clear hK K)
            iterate 8 (refine wq_skip (by kernel_rfl) ?_)
            iterate 2 (refine wq_do (by kernel_rfl) (fun K hK => ?_); go_simp; refine hK _ ?_; clear hK K)
            refine wq_nil ?_
            intro _ hw'
            obtain ⟨⟨dq, osq⟩, hw''⟩ := hw'
            subst hw''
            have HB3 := Lib.hid (HBx.out.trans ((below_regrown w1 dq osq).mono HBx.out.size))
            clear KS d0 d1 d2 d3 d4 d5
            go_wp2_with fail
            go_roundw
            case rel => exact ⟨k + 1, by go_num, by omega, HB3.out, HE.out, HRi.out⟩
            case measure => simp [intOf]; omega
          · obtain ⟨j, rfl⟩ : ∃ j, k = j + 1 := ⟨k - 1, by omega⟩
            have hjl : j < zs.length := by omega
            have HHs := Lib.hid (fun (w2 : World) (h2 : Below w.heap.size w w2) => (H1.out.below h2 (Nat.le_refl _)).req hjl)
            obtain ⟨y, hy⟩ : ∃ y, zs[j] = y := ⟨_, rfl⟩
            rw [hy] at HHs
            have HN := Lib.hid (show risesR (zs.drop j) = (decide (cmpR y x < 0) && risesR (zs.drop (j + 1))) from risesR_next (by rw [List.drop_eq_getElem_cons hjl, List.drop_eq_getElem_cons hlt, hy, HXk.out]))
            have HI := Lib.hid (show risesR zs = risesR (zs.drop j) from HT.out.is)
            clear hy hk0
            have hj1 : IntKind.i64.wrap (j : Int) = (j : Int) := IntWalk.i64_in _ (by omega)
            have hj2 : 0 ≤ (j : Int) + 1 := by omega
            have hj3 : ((j : Int) + 1).toNat = j + 1 := by omega
            have hj4 : (j : Int) + 1 < zs.length := by omega
            have hj5 : decide ((0 : Int) < (j : Int) + 1) = true := decide_eq_true (by omega)
            have hj6 : decide (0 < j + 1) = true := decide_eq_true (by omega)
            go_wp2_with fail
            obtain ⟨w1, hw1⟩ : ∃ w1, wr.alloc (.cells #[.int .i64 x.cl, .int .i64 x.tm, .int .i64 x.kd, .int .i64 x.ky, .int .i64 x.vl, .int .i64 x.sg] 69) = w1 := ⟨_, rfl⟩
            obtain ⟨g, hg⟩ : ∃ g, wr.heap.size = g := ⟨_, rfl⟩
            rw [hw1] at HBx HNt HBk ⊢
            rw [hg] at HBk ⊢
            obtain ⟨d0, d1, d2, d3, d4, d5⟩ := regrown6 (blk_cells6 HBk.out)
            have KS := fun d os => Calls.regrown_of (rq_sealed (w := grow (redrawn w1 d) os) (HNt.out.below (below_regrown w1 d os)) x n)
            rw [hs] at KS
            clear hw1 hg HBk c0 c1 c2 c3 c4 c5 HNt hs
            obtain ⟨y0, y1, y2, y3, y4, y5⟩ := regrown6 (six_of (HHs.out w1 HBx.out))
            have KC := fun d os => Calls.regrown_of (rq_compare y x (grow (redrawn w1 d) os))
            have hja : (0 : Int) ≤ (j : Int) := by omega
            have hjb : (j : Int) < zs.length := by omega
            have HCr := Lib.hid (cmpR_range y x)
            obtain ⟨cr, hcr⟩ : ∃ cr, cmpR y x = cr := ⟨_, rfl⟩
            rw [hcr] at KC HN HCr
            clear hcr
            by_cases hc : cr < 0
            · have HNx := Lib.hid (show risesR zs = risesR (zs.drop (j + 1 + 1 - 1)) by rw [HI.out, HN.out, decide_eq_true hc, Bool.true_and]; rfl)
              have hcd : decide (0 ≤ cr) = false := decide_eq_false (by omega)
              clear hc
              refine wp_region_quiet_below (by kernel_rfl) (by kernel_rfl) ?_
              refine wq_out ?_
              iterate 3 (refine wq_do (by kernel_rfl) (fun K hK => ?_); go_simp; refine hK _ ?_; clear hK K)
              refine wq_do (by kernel_rfl) (fun K hK => ?_)
              go_simp
              apply Exists.intro
              refine ⟨fun a => ?_, hK _ ?_⟩
              · exact KS a.d a.os
              clear hK K
              iterate 11 (refine wq_do (by kernel_rfl) (fun K hK => ?_); go_simp; refine hK _ ?_; clear hK K)
              refine wq_do (by kernel_rfl) (fun K hK => ?_)
              go_simp
              apply Exists.intro
              refine ⟨fun a => ?_, hK _ ?_⟩
              · exact KC a.d a.os
              clear hK K
              iterate 3 (refine wq_do (by kernel_rfl) (fun K hK => ?_); go_simp; refine hK _ ?_; clear hK K)
              refine wq_nil ?_
              intro _ hw'
              obtain ⟨⟨dq, osq⟩, hw''⟩ := hw'
              subst hw''
              have HB3 := Lib.hid (HBx.out.trans ((below_regrown w1 dq osq).mono HBx.out.size))
              clear KS KC d0 d1 d2 d3 d4 d5 y0 y1 y2 y3 y4 y5
              go_wp2_with fail
              go_roundw
              case rel => exact ⟨j + 1 + 1, by go_num, by omega, HB3.out, HE.out, HNx.out⟩
              case measure => simp [intOf]; omega
            · have HNx := Lib.hid (show risesR zs = false by rw [HI.out, HN.out, decide_eq_false hc, Bool.false_and])
              have hcd : decide (0 ≤ cr) = true := decide_eq_true (by omega)
              clear hc
              refine wp_region_quiet_below (by kernel_rfl) (by kernel_rfl) ?_
              refine wq_out ?_
              iterate 3 (refine wq_do (by kernel_rfl) (fun K hK => ?_); go_simp; refine hK _ ?_; clear hK K)
              refine wq_do (by kernel_rfl) (fun K hK => ?_)
              go_simp
              apply Exists.intro
              refine ⟨fun a => ?_, hK _ ?_⟩
              · exact KS a.d a.os
              clear hK K
              iterate 11 (refine wq_do (by kernel_rfl) (fun K hK => ?_); go_simp; refine hK _ ?_; clear hK K)
              refine wq_do (by kernel_rfl) (fun K hK => ?_)
              go_simp
              apply Exists.intro
              refine ⟨fun a => ?_, hK _ ?_⟩
              · exact KC a.d a.os
              clear hK K
              iterate 3 (refine wq_do (by kernel_rfl) (fun K hK => ?_); go_simp; refine hK _ ?_; clear hK K)
              refine wq_nil ?_
              intro _ hw'
              obtain ⟨⟨dq, osq⟩, hw''⟩ := hw'
              subst hw''
              have HB3 := Lib.hid (HBx.out.trans ((below_regrown w1 dq osq).mono HBx.out.size))
              clear KS KC d0 d1 d2 d3 d4 d5 y0 y1 y2 y3 y4 y5
              go_wp2_with fail
              go_ret
              exact ⟨by rw [HNx.out, Bool.false_and]; rfl, HB3.out⟩
      · have HE := Lib.hid (show zs.all (fun r => sealedS r n L) = true by have := HT.out.all; rwa [List.take_of_length_le (by omega)] at this)
        have HE2 := Lib.hid (show risesR zs = true by rw [HT.out.is]; exact risesR_last (by omega))
        go_wp2_with fail
        go_ret
        exact ⟨by rw [HE.out, HE2.out]; rfl, HT.out.low⟩
  · have HS := Lib.hid (show rightS zs m n L = false by unfold rightS; rw [decide_eq_false hm]; rfl)
    have t0 : decide (m < (zs.length : Int)) = true := decide_eq_true (by omega)
    rw [HS.out]
    clear hm
    go_enter Tryz.func63, Tryz.ntmps63
    go_wp2_with fail
    go_ret
    exact ⟨rfl, Below.refl _ _⟩
end Go.Proofs.YtbegjadohamkkaaGreat
/- The contract of the document's blank where the text names visb. -/
namespace Go.Proofs.YtbegjadohamkkaaGreat
open Go.RowKit

set_option maxHeartbeats 8000000 in
set_option maxRecDepth 100000 in
theorem rblank_visb (m : Ms) (w : World) :
    Calls Tryz.prog 79 #[.agg #[.int .i64 m.m.kd, .int .i64 m.m.fr, .int .i64 m.m.vw, .int .i64 m.m.ins, .int .i64 m.m.sq, .int .i64 m.m.rs, .slice m.A1 m.m.bt.length m.c1, .slice m.A2 m.m.vs.length m.c2, .slice m.A3 m.m.cs.length m.c3, .slice m.A4 m.m.ps.length m.c4], .string ⟨#[118, 105, 115, 98]⟩] w fun e w' => e = .returned (.bool (blankS true true true false true false false false m.m)) ∧ Below w.heap.size w w' := by
  have HB := Lib.hid (show Below w.heap.size w (w.alloc (.cells #[.int .i64 m.m.kd, .int .i64 m.m.fr, .int .i64 m.m.vw, .int .i64 m.m.ins, .int .i64 m.m.sq, .int .i64 m.m.rs, .slice m.A1 m.m.bt.length m.c1, .slice m.A2 m.m.vs.length m.c2, .slice m.A3 m.m.cs.length m.c3, .slice m.A4 m.m.ps.length m.c4] 38)) from (Below.refl _ w).alloc (Nat.le_refl _) _)
  have S118 : ∀ w : World, Calls Tryz.prog 128 #[.string ⟨#[118, 105, 115, 98]⟩, .int .u8 118] w fun e w' => e = .returned (.bool true) ∧ w' = w := fun w => (rsign_any ⟨#[118, 105, 115, 98]⟩ 118 (by decide) w).mono (fun e w' h => ⟨h.1.trans (by rfl), h.2⟩)
  have S105 : ∀ w : World, Calls Tryz.prog 128 #[.string ⟨#[118, 105, 115, 98]⟩, .int .u8 105] w fun e w' => e = .returned (.bool true) ∧ w' = w := fun w => (rsign_any ⟨#[118, 105, 115, 98]⟩ 105 (by decide) w).mono (fun e w' h => ⟨h.1.trans (by rfl), h.2⟩)
  have S115 : ∀ w : World, Calls Tryz.prog 128 #[.string ⟨#[118, 105, 115, 98]⟩, .int .u8 115] w fun e w' => e = .returned (.bool true) ∧ w' = w := fun w => (rsign_any ⟨#[118, 105, 115, 98]⟩ 115 (by decide) w).mono (fun e w' h => ⟨h.1.trans (by rfl), h.2⟩)
  have S114 : ∀ w : World, Calls Tryz.prog 128 #[.string ⟨#[118, 105, 115, 98]⟩, .int .u8 114] w fun e w' => e = .returned (.bool false) ∧ w' = w := fun w => (rsign_any ⟨#[118, 105, 115, 98]⟩ 114 (by decide) w).mono (fun e w' h => ⟨h.1.trans (by rfl), h.2⟩)
  have S98 : ∀ w : World, Calls Tryz.prog 128 #[.string ⟨#[118, 105, 115, 98]⟩, .int .u8 98] w fun e w' => e = .returned (.bool true) ∧ w' = w := fun w => (rsign_any ⟨#[118, 105, 115, 98]⟩ 98 (by decide) w).mono (fun e w' h => ⟨h.1.trans (by rfl), h.2⟩)
  have S111 : ∀ w : World, Calls Tryz.prog 128 #[.string ⟨#[118, 105, 115, 98]⟩, .int .u8 111] w fun e w' => e = .returned (.bool false) ∧ w' = w := fun w => (rsign_any ⟨#[118, 105, 115, 98]⟩ 111 (by decide) w).mono (fun e w' h => ⟨h.1.trans (by rfl), h.2⟩)
  have S99 : ∀ w : World, Calls Tryz.prog 128 #[.string ⟨#[118, 105, 115, 98]⟩, .int .u8 99] w fun e w' => e = .returned (.bool false) ∧ w' = w := fun w => (rsign_any ⟨#[118, 105, 115, 98]⟩ 99 (by decide) w).mono (fun e w' h => ⟨h.1.trans (by rfl), h.2⟩)
  have S112 : ∀ w : World, Calls Tryz.prog 128 #[.string ⟨#[118, 105, 115, 98]⟩, .int .u8 112] w fun e w' => e = .returned (.bool false) ∧ w' = w := fun w => (rsign_any ⟨#[118, 105, 115, 98]⟩ 112 (by decide) w).mono (fun e w' h => ⟨h.1.trans (by rfl), h.2⟩)
  go_enter Tryz.func79, Tryz.ntmps79
  go_upto_region 1 with fail
  refine wp_region_lit ?_
  refine wl_out ?_
  refine wl_do (by kernel_rfl) (fun K hK => ?_)
  go_simp
  refine hK _ _ ?_
  clear hK K
  refine wl_do (by kernel_rfl) (fun K hK => ?_)
  go_simp
  refine (S118 _).mono ?_
  rintro e w' ⟨rfl, rfl⟩
  go_simp
  refine hK _ _ ?_
  clear hK K
  refine wl_do (by kernel_rfl) (fun K hK => ?_)
  go_simp
  refine hK _ _ ?_
  clear hK K
  iterate 3 (refine wl_skip (by kernel_rfl) ?_)
  iterate 3 (refine wl_do (by kernel_rfl) (fun K hK => ?_); go_simp; refine hK _ _ ?_; clear hK K)
  refine wl_do (by kernel_rfl) (fun K hK => ?_)
  go_simp
  refine (S105 _).mono ?_
  rintro e w' ⟨rfl, rfl⟩
  go_simp
  refine hK _ _ ?_
  clear hK K
  refine wl_do (by kernel_rfl) (fun K hK => ?_)
  go_simp
  refine hK _ _ ?_
  clear hK K
  iterate 3 (refine wl_skip (by kernel_rfl) ?_)
  iterate 4 (refine wl_do (by kernel_rfl) (fun K hK => ?_); go_simp; refine hK _ _ ?_; clear hK K)
  refine wl_do (by kernel_rfl) (fun K hK => ?_)
  go_simp
  refine (S115 _).mono ?_
  rintro e w' ⟨rfl, rfl⟩
  go_simp
  refine hK _ _ ?_
  clear hK K
  refine wl_do (by kernel_rfl) (fun K hK => ?_)
  go_simp
  refine hK _ _ ?_
  clear hK K
  iterate 3 (refine wl_skip (by kernel_rfl) ?_)
  iterate 4 (refine wl_do (by kernel_rfl) (fun K hK => ?_); go_simp; refine hK _ _ ?_; clear hK K)
  refine wl_do (by kernel_rfl) (fun K hK => ?_)
  go_simp
  refine (S114 _).mono ?_
  rintro e w' ⟨rfl, rfl⟩
  go_simp
  refine hK _ _ ?_
  clear hK K
  refine wl_do (by kernel_rfl) (fun K hK => ?_)
  go_simp
  refine hK _ _ ?_
  clear hK K
  by_cases h3 : m.m.rs = 0
  case neg =>
    have Z3 := Lib.hid (show (m.m.rs == 0) = false by simpa using h3)
    have z3 := Z3.out
    clear h3
    iterate 6 (refine wl_do (by kernel_rfl) (fun K hK => ?_); go_simp; refine hK _ _ ?_; clear hK K)
    iterate 8 (refine wl_skip (by kernel_rfl) ?_)
    iterate 2 (refine wl_do (by kernel_rfl) (fun K hK => ?_); go_simp; refine hK _ _ ?_; clear hK K)
    iterate 8 (refine wl_skip (by kernel_rfl) ?_)
    iterate 2 (refine wl_do (by kernel_rfl) (fun K hK => ?_); go_simp; refine hK _ _ ?_; clear hK K)
    iterate 8 (refine wl_skip (by kernel_rfl) ?_)
    iterate 2 (refine wl_do (by kernel_rfl) (fun K hK => ?_); go_simp; refine hK _ _ ?_; clear hK K)
    iterate 8 (refine wl_skip (by kernel_rfl) ?_)
    iterate 2 (refine wl_do (by kernel_rfl) (fun K hK => ?_); go_simp; refine hK _ _ ?_; clear hK K)
    refine wl_nil ?_
    clear S118 S105 S115 S114 S98 S111 S99 S112
    go_wp2_with fail
    go_ret
    exact ⟨congrArg (fun b => Ending.returned (.bool b)) (show false = blankS true true true false true false false false m.m by unfold blankS; rw [Z3.out]; simp), HB.out⟩
  have Z3 := Lib.hid (show (m.m.rs == 0) = true by simpa using h3)
  have z3 := Z3.out
  clear h3
  iterate 7 (refine wl_do (by kernel_rfl) (fun K hK => ?_); go_simp; refine hK _ _ ?_; clear hK K)
  refine wl_do (by kernel_rfl) (fun K hK => ?_)
  go_simp
  refine (S98 _).mono ?_
  rintro e w' ⟨rfl, rfl⟩
  go_simp
  refine hK _ _ ?_
  clear hK K
  refine wl_do (by kernel_rfl) (fun K hK => ?_)
  go_simp
  refine hK _ _ ?_
  clear hK K
  iterate 4 (refine wl_skip (by kernel_rfl) ?_)
  iterate 4 (refine wl_do (by kernel_rfl) (fun K hK => ?_); go_simp; refine hK _ _ ?_; clear hK K)
  refine wl_do (by kernel_rfl) (fun K hK => ?_)
  go_simp
  refine (S111 _).mono ?_
  rintro e w' ⟨rfl, rfl⟩
  go_simp
  refine hK _ _ ?_
  clear hK K
  refine wl_do (by kernel_rfl) (fun K hK => ?_)
  go_simp
  refine hK _ _ ?_
  clear hK K
  by_cases h5 : m.m.vs.length = 0
  case neg =>
    have Z5 := Lib.hid (show (m.m.vs.length == 0) = false by simpa using h5)
    have z5 : ((m.m.vs.length : Int) == 0) = false := by rw [beq_eq_false_iff_ne]; omega
    have y5 := Z5.out
    clear h5
    iterate 7 (refine wl_do (by kernel_rfl) (fun K hK => ?_); go_simp; refine hK _ _ ?_; clear hK K)
    iterate 8 (refine wl_skip (by kernel_rfl) ?_)
    iterate 2 (refine wl_do (by kernel_rfl) (fun K hK => ?_); go_simp; refine hK _ _ ?_; clear hK K)
    iterate 8 (refine wl_skip (by kernel_rfl) ?_)
    iterate 2 (refine wl_do (by kernel_rfl) (fun K hK => ?_); go_simp; refine hK _ _ ?_; clear hK K)
    refine wl_nil ?_
    clear S118 S105 S115 S114 S98 S111 S99 S112
    go_wp2_with fail
    go_ret
    exact ⟨congrArg (fun b => Ending.returned (.bool b)) (show false = blankS true true true false true false false false m.m by unfold blankS; rw [Z5.out]; simp), HB.out⟩
  have Z5 := Lib.hid (show (m.m.vs.length == 0) = true by simpa using h5)
  have z5 : ((m.m.vs.length : Int) == 0) = true := by rw [beq_iff_eq]; omega
  have y5 := Z5.out
  clear h5
  iterate 8 (refine wl_do (by kernel_rfl) (fun K hK => ?_); go_simp; refine hK _ _ ?_; clear hK K)
  refine wl_do (by kernel_rfl) (fun K hK => ?_)
  go_simp
  refine (S99 _).mono ?_
  rintro e w' ⟨rfl, rfl⟩
  go_simp
  refine hK _ _ ?_
  clear hK K
  refine wl_do (by kernel_rfl) (fun K hK => ?_)
  go_simp
  refine hK _ _ ?_
  clear hK K
  by_cases h6 : m.m.cs.length = 0
  case neg =>
    have Z6 := Lib.hid (show (m.m.cs.length == 0) = false by simpa using h6)
    have z6 : ((m.m.cs.length : Int) == 0) = false := by rw [beq_eq_false_iff_ne]; omega
    have y6 := Z6.out
    clear h6
    iterate 7 (refine wl_do (by kernel_rfl) (fun K hK => ?_); go_simp; refine hK _ _ ?_; clear hK K)
    iterate 8 (refine wl_skip (by kernel_rfl) ?_)
    iterate 2 (refine wl_do (by kernel_rfl) (fun K hK => ?_); go_simp; refine hK _ _ ?_; clear hK K)
    refine wl_nil ?_
    clear S118 S105 S115 S114 S98 S111 S99 S112
    go_wp2_with fail
    go_ret
    exact ⟨congrArg (fun b => Ending.returned (.bool b)) (show false = blankS true true true false true false false false m.m by unfold blankS; rw [Z6.out]; simp), HB.out⟩
  have Z6 := Lib.hid (show (m.m.cs.length == 0) = true by simpa using h6)
  have z6 : ((m.m.cs.length : Int) == 0) = true := by rw [beq_iff_eq]; omega
  have y6 := Z6.out
  clear h6
  iterate 8 (refine wl_do (by kernel_rfl) (fun K hK => ?_); go_simp; refine hK _ _ ?_; clear hK K)
  refine wl_do (by kernel_rfl) (fun K hK => ?_)
  go_simp
  refine (S112 _).mono ?_
  rintro e w' ⟨rfl, rfl⟩
  go_simp
  refine hK _ _ ?_
  clear hK K
  refine wl_do (by kernel_rfl) (fun K hK => ?_)
  go_simp
  refine hK _ _ ?_
  clear hK K
  by_cases h7 : m.m.ps.length = 0
  case neg =>
    have Z7 := Lib.hid (show (m.m.ps.length == 0) = false by simpa using h7)
    have z7 : ((m.m.ps.length : Int) == 0) = false := by rw [beq_eq_false_iff_ne]; omega
    have y7 := Z7.out
    clear h7
    iterate 7 (refine wl_do (by kernel_rfl) (fun K hK => ?_); go_simp; refine hK _ _ ?_; clear hK K)
    refine wl_nil ?_
    clear S118 S105 S115 S114 S98 S111 S99 S112
    go_wp2_with fail
    go_ret
    exact ⟨congrArg (fun b => Ending.returned (.bool b)) (show false = blankS true true true false true false false false m.m by unfold blankS; rw [Z7.out]; simp), HB.out⟩
  have Z7 := Lib.hid (show (m.m.ps.length == 0) = true by simpa using h7)
  have z7 : ((m.m.ps.length : Int) == 0) = true := by rw [beq_iff_eq]; omega
  have y7 := Z7.out
  clear h7
  iterate 7 (refine wl_do (by kernel_rfl) (fun K hK => ?_); go_simp; refine hK _ _ ?_; clear hK K)
  refine wl_nil ?_
  clear S118 S105 S115 S114 S98 S111 S99 S112
  go_wp2_with fail
  go_ret
  exact ⟨congrArg (fun b => Ending.returned (.bool b)) (show true = blankS true true true false true false false false m.m by unfold blankS; rw [Z3.out, Z5.out, Z6.out, Z7.out]; rfl), HB.out⟩
end Go.Proofs.YtbegjadohamkkaaGreat
/- The contract of the document's blank where the text names v. -/
namespace Go.Proofs.YtbegjadohamkkaaGreat
open Go.RowKit

set_option maxHeartbeats 8000000 in
set_option maxRecDepth 100000 in
theorem rblank_v (m : Ms) (w : World) :
    Calls Tryz.prog 79 #[.agg #[.int .i64 m.m.kd, .int .i64 m.m.fr, .int .i64 m.m.vw, .int .i64 m.m.ins, .int .i64 m.m.sq, .int .i64 m.m.rs, .slice m.A1 m.m.bt.length m.c1, .slice m.A2 m.m.vs.length m.c2, .slice m.A3 m.m.cs.length m.c3, .slice m.A4 m.m.ps.length m.c4], .string ⟨#[118]⟩] w fun e w' => e = .returned (.bool (blankS true false false false false false false false m.m)) ∧ Below w.heap.size w w' := by
  have HB := Lib.hid (show Below w.heap.size w (w.alloc (.cells #[.int .i64 m.m.kd, .int .i64 m.m.fr, .int .i64 m.m.vw, .int .i64 m.m.ins, .int .i64 m.m.sq, .int .i64 m.m.rs, .slice m.A1 m.m.bt.length m.c1, .slice m.A2 m.m.vs.length m.c2, .slice m.A3 m.m.cs.length m.c3, .slice m.A4 m.m.ps.length m.c4] 38)) from (Below.refl _ w).alloc (Nat.le_refl _) _)
  have S118 : ∀ w : World, Calls Tryz.prog 128 #[.string ⟨#[118]⟩, .int .u8 118] w fun e w' => e = .returned (.bool true) ∧ w' = w := fun w => (rsign_any ⟨#[118]⟩ 118 (by decide) w).mono (fun e w' h => ⟨h.1.trans (by rfl), h.2⟩)
  have S105 : ∀ w : World, Calls Tryz.prog 128 #[.string ⟨#[118]⟩, .int .u8 105] w fun e w' => e = .returned (.bool false) ∧ w' = w := fun w => (rsign_any ⟨#[118]⟩ 105 (by decide) w).mono (fun e w' h => ⟨h.1.trans (by rfl), h.2⟩)
  have S115 : ∀ w : World, Calls Tryz.prog 128 #[.string ⟨#[118]⟩, .int .u8 115] w fun e w' => e = .returned (.bool false) ∧ w' = w := fun w => (rsign_any ⟨#[118]⟩ 115 (by decide) w).mono (fun e w' h => ⟨h.1.trans (by rfl), h.2⟩)
  have S114 : ∀ w : World, Calls Tryz.prog 128 #[.string ⟨#[118]⟩, .int .u8 114] w fun e w' => e = .returned (.bool false) ∧ w' = w := fun w => (rsign_any ⟨#[118]⟩ 114 (by decide) w).mono (fun e w' h => ⟨h.1.trans (by rfl), h.2⟩)
  have S98 : ∀ w : World, Calls Tryz.prog 128 #[.string ⟨#[118]⟩, .int .u8 98] w fun e w' => e = .returned (.bool false) ∧ w' = w := fun w => (rsign_any ⟨#[118]⟩ 98 (by decide) w).mono (fun e w' h => ⟨h.1.trans (by rfl), h.2⟩)
  have S111 : ∀ w : World, Calls Tryz.prog 128 #[.string ⟨#[118]⟩, .int .u8 111] w fun e w' => e = .returned (.bool false) ∧ w' = w := fun w => (rsign_any ⟨#[118]⟩ 111 (by decide) w).mono (fun e w' h => ⟨h.1.trans (by rfl), h.2⟩)
  have S99 : ∀ w : World, Calls Tryz.prog 128 #[.string ⟨#[118]⟩, .int .u8 99] w fun e w' => e = .returned (.bool false) ∧ w' = w := fun w => (rsign_any ⟨#[118]⟩ 99 (by decide) w).mono (fun e w' h => ⟨h.1.trans (by rfl), h.2⟩)
  have S112 : ∀ w : World, Calls Tryz.prog 128 #[.string ⟨#[118]⟩, .int .u8 112] w fun e w' => e = .returned (.bool false) ∧ w' = w := fun w => (rsign_any ⟨#[118]⟩ 112 (by decide) w).mono (fun e w' h => ⟨h.1.trans (by rfl), h.2⟩)
  go_enter Tryz.func79, Tryz.ntmps79
  go_upto_region 1 with fail
  refine wp_region_lit ?_
  refine wl_out ?_
  refine wl_do (by kernel_rfl) (fun K hK => ?_)
  go_simp
  refine hK _ _ ?_
  clear hK K
  refine wl_do (by kernel_rfl) (fun K hK => ?_)
  go_simp
  refine (S118 _).mono ?_
  rintro e w' ⟨rfl, rfl⟩
  go_simp
  refine hK _ _ ?_
  clear hK K
  refine wl_do (by kernel_rfl) (fun K hK => ?_)
  go_simp
  refine hK _ _ ?_
  clear hK K
  iterate 3 (refine wl_skip (by kernel_rfl) ?_)
  iterate 3 (refine wl_do (by kernel_rfl) (fun K hK => ?_); go_simp; refine hK _ _ ?_; clear hK K)
  refine wl_do (by kernel_rfl) (fun K hK => ?_)
  go_simp
  refine (S105 _).mono ?_
  rintro e w' ⟨rfl, rfl⟩
  go_simp
  refine hK _ _ ?_
  clear hK K
  refine wl_do (by kernel_rfl) (fun K hK => ?_)
  go_simp
  refine hK _ _ ?_
  clear hK K
  by_cases h1 : m.m.ins = 0
  case neg =>
    have Z1 := Lib.hid (show (m.m.ins == 0) = false by simpa using h1)
    have z1 := Z1.out
    clear h1
    iterate 6 (refine wl_do (by kernel_rfl) (fun K hK => ?_); go_simp; refine hK _ _ ?_; clear hK K)
    iterate 7 (refine wl_skip (by kernel_rfl) ?_)
    iterate 2 (refine wl_do (by kernel_rfl) (fun K hK => ?_); go_simp; refine hK _ _ ?_; clear hK K)
    iterate 7 (refine wl_skip (by kernel_rfl) ?_)
    iterate 2 (refine wl_do (by kernel_rfl) (fun K hK => ?_); go_simp; refine hK _ _ ?_; clear hK K)
    iterate 8 (refine wl_skip (by kernel_rfl) ?_)
    iterate 2 (refine wl_do (by kernel_rfl) (fun K hK => ?_); go_simp; refine hK _ _ ?_; clear hK K)
    iterate 8 (refine wl_skip (by kernel_rfl) ?_)
    iterate 2 (refine wl_do (by kernel_rfl) (fun K hK => ?_); go_simp; refine hK _ _ ?_; clear hK K)
    iterate 8 (refine wl_skip (by kernel_rfl) ?_)
    iterate 2 (refine wl_do (by kernel_rfl) (fun K hK => ?_); go_simp; refine hK _ _ ?_; clear hK K)
    iterate 8 (refine wl_skip (by kernel_rfl) ?_)
    iterate 2 (refine wl_do (by kernel_rfl) (fun K hK => ?_); go_simp; refine hK _ _ ?_; clear hK K)
    refine wl_nil ?_
    clear S118 S105 S115 S114 S98 S111 S99 S112
    go_wp2_with fail
    go_ret
    exact ⟨congrArg (fun b => Ending.returned (.bool b)) (show false = blankS true false false false false false false false m.m by unfold blankS; rw [Z1.out]; simp), HB.out⟩
  have Z1 := Lib.hid (show (m.m.ins == 0) = true by simpa using h1)
  have z1 := Z1.out
  clear h1
  iterate 7 (refine wl_do (by kernel_rfl) (fun K hK => ?_); go_simp; refine hK _ _ ?_; clear hK K)
  refine wl_do (by kernel_rfl) (fun K hK => ?_)
  go_simp
  refine (S115 _).mono ?_
  rintro e w' ⟨rfl, rfl⟩
  go_simp
  refine hK _ _ ?_
  clear hK K
  refine wl_do (by kernel_rfl) (fun K hK => ?_)
  go_simp
  refine hK _ _ ?_
  clear hK K
  by_cases h2 : m.m.sq = 0
  case neg =>
    have Z2 := Lib.hid (show (m.m.sq == 0) = false by simpa using h2)
    have z2 := Z2.out
    clear h2
    iterate 6 (refine wl_do (by kernel_rfl) (fun K hK => ?_); go_simp; refine hK _ _ ?_; clear hK K)
    iterate 7 (refine wl_skip (by kernel_rfl) ?_)
    iterate 2 (refine wl_do (by kernel_rfl) (fun K hK => ?_); go_simp; refine hK _ _ ?_; clear hK K)
    iterate 8 (refine wl_skip (by kernel_rfl) ?_)
    iterate 2 (refine wl_do (by kernel_rfl) (fun K hK => ?_); go_simp; refine hK _ _ ?_; clear hK K)
    iterate 8 (refine wl_skip (by kernel_rfl) ?_)
    iterate 2 (refine wl_do (by kernel_rfl) (fun K hK => ?_); go_simp; refine hK _ _ ?_; clear hK K)
    iterate 8 (refine wl_skip (by kernel_rfl) ?_)
    iterate 2 (refine wl_do (by kernel_rfl) (fun K hK => ?_); go_simp; refine hK _ _ ?_; clear hK K)
    iterate 8 (refine wl_skip (by kernel_rfl) ?_)
    iterate 2 (refine wl_do (by kernel_rfl) (fun K hK => ?_); go_simp; refine hK _ _ ?_; clear hK K)
    refine wl_nil ?_
    clear S118 S105 S115 S114 S98 S111 S99 S112
    go_wp2_with fail
    go_ret
    exact ⟨congrArg (fun b => Ending.returned (.bool b)) (show false = blankS true false false false false false false false m.m by unfold blankS; rw [Z2.out]; simp), HB.out⟩
  have Z2 := Lib.hid (show (m.m.sq == 0) = true by simpa using h2)
  have z2 := Z2.out
  clear h2
  iterate 7 (refine wl_do (by kernel_rfl) (fun K hK => ?_); go_simp; refine hK _ _ ?_; clear hK K)
  refine wl_do (by kernel_rfl) (fun K hK => ?_)
  go_simp
  refine (S114 _).mono ?_
  rintro e w' ⟨rfl, rfl⟩
  go_simp
  refine hK _ _ ?_
  clear hK K
  refine wl_do (by kernel_rfl) (fun K hK => ?_)
  go_simp
  refine hK _ _ ?_
  clear hK K
  by_cases h3 : m.m.rs = 0
  case neg =>
    have Z3 := Lib.hid (show (m.m.rs == 0) = false by simpa using h3)
    have z3 := Z3.out
    clear h3
    iterate 6 (refine wl_do (by kernel_rfl) (fun K hK => ?_); go_simp; refine hK _ _ ?_; clear hK K)
    iterate 8 (refine wl_skip (by kernel_rfl) ?_)
    iterate 2 (refine wl_do (by kernel_rfl) (fun K hK => ?_); go_simp; refine hK _ _ ?_; clear hK K)
    iterate 8 (refine wl_skip (by kernel_rfl) ?_)
    iterate 2 (refine wl_do (by kernel_rfl) (fun K hK => ?_); go_simp; refine hK _ _ ?_; clear hK K)
    iterate 8 (refine wl_skip (by kernel_rfl) ?_)
    iterate 2 (refine wl_do (by kernel_rfl) (fun K hK => ?_); go_simp; refine hK _ _ ?_; clear hK K)
    iterate 8 (refine wl_skip (by kernel_rfl) ?_)
    iterate 2 (refine wl_do (by kernel_rfl) (fun K hK => ?_); go_simp; refine hK _ _ ?_; clear hK K)
    refine wl_nil ?_
    clear S118 S105 S115 S114 S98 S111 S99 S112
    go_wp2_with fail
    go_ret
    exact ⟨congrArg (fun b => Ending.returned (.bool b)) (show false = blankS true false false false false false false false m.m by unfold blankS; rw [Z3.out]; simp), HB.out⟩
  have Z3 := Lib.hid (show (m.m.rs == 0) = true by simpa using h3)
  have z3 := Z3.out
  clear h3
  iterate 7 (refine wl_do (by kernel_rfl) (fun K hK => ?_); go_simp; refine hK _ _ ?_; clear hK K)
  refine wl_do (by kernel_rfl) (fun K hK => ?_)
  go_simp
  refine (S98 _).mono ?_
  rintro e w' ⟨rfl, rfl⟩
  go_simp
  refine hK _ _ ?_
  clear hK K
  refine wl_do (by kernel_rfl) (fun K hK => ?_)
  go_simp
  refine hK _ _ ?_
  clear hK K
  by_cases h4 : m.m.bt.length = 0
  case neg =>
    have Z4 := Lib.hid (show (m.m.bt.length == 0) = false by simpa using h4)
    have z4 : ((m.m.bt.length : Int) == 0) = false := by rw [beq_eq_false_iff_ne]; omega
    have y4 := Z4.out
    clear h4
    iterate 7 (refine wl_do (by kernel_rfl) (fun K hK => ?_); go_simp; refine hK _ _ ?_; clear hK K)
    iterate 8 (refine wl_skip (by kernel_rfl) ?_)
    iterate 2 (refine wl_do (by kernel_rfl) (fun K hK => ?_); go_simp; refine hK _ _ ?_; clear hK K)
    iterate 8 (refine wl_skip (by kernel_rfl) ?_)
    iterate 2 (refine wl_do (by kernel_rfl) (fun K hK => ?_); go_simp; refine hK _ _ ?_; clear hK K)
    iterate 8 (refine wl_skip (by kernel_rfl) ?_)
    iterate 2 (refine wl_do (by kernel_rfl) (fun K hK => ?_); go_simp; refine hK _ _ ?_; clear hK K)
    refine wl_nil ?_
    clear S118 S105 S115 S114 S98 S111 S99 S112
    go_wp2_with fail
    go_ret
    exact ⟨congrArg (fun b => Ending.returned (.bool b)) (show false = blankS true false false false false false false false m.m by unfold blankS; rw [Z4.out]; simp), HB.out⟩
  have Z4 := Lib.hid (show (m.m.bt.length == 0) = true by simpa using h4)
  have z4 : ((m.m.bt.length : Int) == 0) = true := by rw [beq_iff_eq]; omega
  have y4 := Z4.out
  clear h4
  iterate 8 (refine wl_do (by kernel_rfl) (fun K hK => ?_); go_simp; refine hK _ _ ?_; clear hK K)
  refine wl_do (by kernel_rfl) (fun K hK => ?_)
  go_simp
  refine (S111 _).mono ?_
  rintro e w' ⟨rfl, rfl⟩
  go_simp
  refine hK _ _ ?_
  clear hK K
  refine wl_do (by kernel_rfl) (fun K hK => ?_)
  go_simp
  refine hK _ _ ?_
  clear hK K
  by_cases h5 : m.m.vs.length = 0
  case neg =>
    have Z5 := Lib.hid (show (m.m.vs.length == 0) = false by simpa using h5)
    have z5 : ((m.m.vs.length : Int) == 0) = false := by rw [beq_eq_false_iff_ne]; omega
    have y5 := Z5.out
    clear h5
    iterate 7 (refine wl_do (by kernel_rfl) (fun K hK => ?_); go_simp; refine hK _ _ ?_; clear hK K)
    iterate 8 (refine wl_skip (by kernel_rfl) ?_)
    iterate 2 (refine wl_do (by kernel_rfl) (fun K hK => ?_); go_simp; refine hK _ _ ?_; clear hK K)
    iterate 8 (refine wl_skip (by kernel_rfl) ?_)
    iterate 2 (refine wl_do (by kernel_rfl) (fun K hK => ?_); go_simp; refine hK _ _ ?_; clear hK K)
    refine wl_nil ?_
    clear S118 S105 S115 S114 S98 S111 S99 S112
    go_wp2_with fail
    go_ret
    exact ⟨congrArg (fun b => Ending.returned (.bool b)) (show false = blankS true false false false false false false false m.m by unfold blankS; rw [Z5.out]; simp), HB.out⟩
  have Z5 := Lib.hid (show (m.m.vs.length == 0) = true by simpa using h5)
  have z5 : ((m.m.vs.length : Int) == 0) = true := by rw [beq_iff_eq]; omega
  have y5 := Z5.out
  clear h5
  iterate 8 (refine wl_do (by kernel_rfl) (fun K hK => ?_); go_simp; refine hK _ _ ?_; clear hK K)
  refine wl_do (by kernel_rfl) (fun K hK => ?_)
  go_simp
  refine (S99 _).mono ?_
  rintro e w' ⟨rfl, rfl⟩
  go_simp
  refine hK _ _ ?_
  clear hK K
  refine wl_do (by kernel_rfl) (fun K hK => ?_)
  go_simp
  refine hK _ _ ?_
  clear hK K
  by_cases h6 : m.m.cs.length = 0
  case neg =>
    have Z6 := Lib.hid (show (m.m.cs.length == 0) = false by simpa using h6)
    have z6 : ((m.m.cs.length : Int) == 0) = false := by rw [beq_eq_false_iff_ne]; omega
    have y6 := Z6.out
    clear h6
    iterate 7 (refine wl_do (by kernel_rfl) (fun K hK => ?_); go_simp; refine hK _ _ ?_; clear hK K)
    iterate 8 (refine wl_skip (by kernel_rfl) ?_)
    iterate 2 (refine wl_do (by kernel_rfl) (fun K hK => ?_); go_simp; refine hK _ _ ?_; clear hK K)
    refine wl_nil ?_
    clear S118 S105 S115 S114 S98 S111 S99 S112
    go_wp2_with fail
    go_ret
    exact ⟨congrArg (fun b => Ending.returned (.bool b)) (show false = blankS true false false false false false false false m.m by unfold blankS; rw [Z6.out]; simp), HB.out⟩
  have Z6 := Lib.hid (show (m.m.cs.length == 0) = true by simpa using h6)
  have z6 : ((m.m.cs.length : Int) == 0) = true := by rw [beq_iff_eq]; omega
  have y6 := Z6.out
  clear h6
  iterate 8 (refine wl_do (by kernel_rfl) (fun K hK => ?_); go_simp; refine hK _ _ ?_; clear hK K)
  refine wl_do (by kernel_rfl) (fun K hK => ?_)
  go_simp
  refine (S112 _).mono ?_
  rintro e w' ⟨rfl, rfl⟩
  go_simp
  refine hK _ _ ?_
  clear hK K
  refine wl_do (by kernel_rfl) (fun K hK => ?_)
  go_simp
  refine hK _ _ ?_
  clear hK K
  by_cases h7 : m.m.ps.length = 0
  case neg =>
    have Z7 := Lib.hid (show (m.m.ps.length == 0) = false by simpa using h7)
    have z7 : ((m.m.ps.length : Int) == 0) = false := by rw [beq_eq_false_iff_ne]; omega
    have y7 := Z7.out
    clear h7
    iterate 7 (refine wl_do (by kernel_rfl) (fun K hK => ?_); go_simp; refine hK _ _ ?_; clear hK K)
    refine wl_nil ?_
    clear S118 S105 S115 S114 S98 S111 S99 S112
    go_wp2_with fail
    go_ret
    exact ⟨congrArg (fun b => Ending.returned (.bool b)) (show false = blankS true false false false false false false false m.m by unfold blankS; rw [Z7.out]; simp), HB.out⟩
  have Z7 := Lib.hid (show (m.m.ps.length == 0) = true by simpa using h7)
  have z7 : ((m.m.ps.length : Int) == 0) = true := by rw [beq_iff_eq]; omega
  have y7 := Z7.out
  clear h7
  iterate 7 (refine wl_do (by kernel_rfl) (fun K hK => ?_); go_simp; refine hK _ _ ?_; clear hK K)
  refine wl_nil ?_
  clear S118 S105 S115 S114 S98 S111 S99 S112
  go_wp2_with fail
  go_ret
  exact ⟨congrArg (fun b => Ending.returned (.bool b)) (show true = blankS true false false false false false false false m.m by unfold blankS; rw [Z1.out, Z2.out, Z3.out, Z4.out, Z5.out, Z6.out, Z7.out]; rfl), HB.out⟩
end Go.Proofs.YtbegjadohamkkaaGreat
/- The contract of the document's blank where the text names voc. -/
namespace Go.Proofs.YtbegjadohamkkaaGreat
open Go.RowKit

set_option maxHeartbeats 8000000 in
set_option maxRecDepth 100000 in
theorem rblank_voc (m : Ms) (w : World) :
    Calls Tryz.prog 79 #[.agg #[.int .i64 m.m.kd, .int .i64 m.m.fr, .int .i64 m.m.vw, .int .i64 m.m.ins, .int .i64 m.m.sq, .int .i64 m.m.rs, .slice m.A1 m.m.bt.length m.c1, .slice m.A2 m.m.vs.length m.c2, .slice m.A3 m.m.cs.length m.c3, .slice m.A4 m.m.ps.length m.c4], .string ⟨#[118, 111, 99]⟩] w fun e w' => e = .returned (.bool (blankS true false false false false true true false m.m)) ∧ Below w.heap.size w w' := by
  have HB := Lib.hid (show Below w.heap.size w (w.alloc (.cells #[.int .i64 m.m.kd, .int .i64 m.m.fr, .int .i64 m.m.vw, .int .i64 m.m.ins, .int .i64 m.m.sq, .int .i64 m.m.rs, .slice m.A1 m.m.bt.length m.c1, .slice m.A2 m.m.vs.length m.c2, .slice m.A3 m.m.cs.length m.c3, .slice m.A4 m.m.ps.length m.c4] 38)) from (Below.refl _ w).alloc (Nat.le_refl _) _)
  have S118 : ∀ w : World, Calls Tryz.prog 128 #[.string ⟨#[118, 111, 99]⟩, .int .u8 118] w fun e w' => e = .returned (.bool true) ∧ w' = w := fun w => (rsign_any ⟨#[118, 111, 99]⟩ 118 (by decide) w).mono (fun e w' h => ⟨h.1.trans (by rfl), h.2⟩)
  have S105 : ∀ w : World, Calls Tryz.prog 128 #[.string ⟨#[118, 111, 99]⟩, .int .u8 105] w fun e w' => e = .returned (.bool false) ∧ w' = w := fun w => (rsign_any ⟨#[118, 111, 99]⟩ 105 (by decide) w).mono (fun e w' h => ⟨h.1.trans (by rfl), h.2⟩)
  have S115 : ∀ w : World, Calls Tryz.prog 128 #[.string ⟨#[118, 111, 99]⟩, .int .u8 115] w fun e w' => e = .returned (.bool false) ∧ w' = w := fun w => (rsign_any ⟨#[118, 111, 99]⟩ 115 (by decide) w).mono (fun e w' h => ⟨h.1.trans (by rfl), h.2⟩)
  have S114 : ∀ w : World, Calls Tryz.prog 128 #[.string ⟨#[118, 111, 99]⟩, .int .u8 114] w fun e w' => e = .returned (.bool false) ∧ w' = w := fun w => (rsign_any ⟨#[118, 111, 99]⟩ 114 (by decide) w).mono (fun e w' h => ⟨h.1.trans (by rfl), h.2⟩)
  have S98 : ∀ w : World, Calls Tryz.prog 128 #[.string ⟨#[118, 111, 99]⟩, .int .u8 98] w fun e w' => e = .returned (.bool false) ∧ w' = w := fun w => (rsign_any ⟨#[118, 111, 99]⟩ 98 (by decide) w).mono (fun e w' h => ⟨h.1.trans (by rfl), h.2⟩)
  have S111 : ∀ w : World, Calls Tryz.prog 128 #[.string ⟨#[118, 111, 99]⟩, .int .u8 111] w fun e w' => e = .returned (.bool true) ∧ w' = w := fun w => (rsign_any ⟨#[118, 111, 99]⟩ 111 (by decide) w).mono (fun e w' h => ⟨h.1.trans (by rfl), h.2⟩)
  have S99 : ∀ w : World, Calls Tryz.prog 128 #[.string ⟨#[118, 111, 99]⟩, .int .u8 99] w fun e w' => e = .returned (.bool true) ∧ w' = w := fun w => (rsign_any ⟨#[118, 111, 99]⟩ 99 (by decide) w).mono (fun e w' h => ⟨h.1.trans (by rfl), h.2⟩)
  have S112 : ∀ w : World, Calls Tryz.prog 128 #[.string ⟨#[118, 111, 99]⟩, .int .u8 112] w fun e w' => e = .returned (.bool false) ∧ w' = w := fun w => (rsign_any ⟨#[118, 111, 99]⟩ 112 (by decide) w).mono (fun e w' h => ⟨h.1.trans (by rfl), h.2⟩)
  go_enter Tryz.func79, Tryz.ntmps79
  go_upto_region 1 with fail
  refine wp_region_lit ?_
  refine wl_out ?_
  refine wl_do (by kernel_rfl) (fun K hK => ?_)
  go_simp
  refine hK _ _ ?_
  clear hK K
  refine wl_do (by kernel_rfl) (fun K hK => ?_)
  go_simp
  refine (S118 _).mono ?_
  rintro e w' ⟨rfl, rfl⟩
  go_simp
  refine hK _ _ ?_
  clear hK K
  refine wl_do (by kernel_rfl) (fun K hK => ?_)
  go_simp
  refine hK _ _ ?_
  clear hK K
  iterate 3 (refine wl_skip (by kernel_rfl) ?_)
  iterate 3 (refine wl_do (by kernel_rfl) (fun K hK => ?_); go_simp; refine hK _ _ ?_; clear hK K)
  refine wl_do (by kernel_rfl) (fun K hK => ?_)
  go_simp
  refine (S105 _).mono ?_
  rintro e w' ⟨rfl, rfl⟩
  go_simp
  refine hK _ _ ?_
  clear hK K
  refine wl_do (by kernel_rfl) (fun K hK => ?_)
  go_simp
  refine hK _ _ ?_
  clear hK K
  by_cases h1 : m.m.ins = 0
  case neg =>
    have Z1 := Lib.hid (show (m.m.ins == 0) = false by simpa using h1)
    have z1 := Z1.out
    clear h1
    iterate 6 (refine wl_do (by kernel_rfl) (fun K hK => ?_); go_simp; refine hK _ _ ?_; clear hK K)
    iterate 7 (refine wl_skip (by kernel_rfl) ?_)
    iterate 2 (refine wl_do (by kernel_rfl) (fun K hK => ?_); go_simp; refine hK _ _ ?_; clear hK K)
    iterate 7 (refine wl_skip (by kernel_rfl) ?_)
    iterate 2 (refine wl_do (by kernel_rfl) (fun K hK => ?_); go_simp; refine hK _ _ ?_; clear hK K)
    iterate 8 (refine wl_skip (by kernel_rfl) ?_)
    iterate 2 (refine wl_do (by kernel_rfl) (fun K hK => ?_); go_simp; refine hK _ _ ?_; clear hK K)
    iterate 8 (refine wl_skip (by kernel_rfl) ?_)
    iterate 2 (refine wl_do (by kernel_rfl) (fun K hK => ?_); go_simp; refine hK _ _ ?_; clear hK K)
    iterate 8 (refine wl_skip (by kernel_rfl) ?_)
    iterate 2 (refine wl_do (by kernel_rfl) (fun K hK => ?_); go_simp; refine hK _ _ ?_; clear hK K)
    iterate 8 (refine wl_skip (by kernel_rfl) ?_)
    iterate 2 (refine wl_do (by kernel_rfl) (fun K hK => ?_); go_simp; refine hK _ _ ?_; clear hK K)
    refine wl_nil ?_
    clear S118 S105 S115 S114 S98 S111 S99 S112
    go_wp2_with fail
    go_ret
    exact ⟨congrArg (fun b => Ending.returned (.bool b)) (show false = blankS true false false false false true true false m.m by unfold blankS; rw [Z1.out]; simp), HB.out⟩
  have Z1 := Lib.hid (show (m.m.ins == 0) = true by simpa using h1)
  have z1 := Z1.out
  clear h1
  iterate 7 (refine wl_do (by kernel_rfl) (fun K hK => ?_); go_simp; refine hK _ _ ?_; clear hK K)
  refine wl_do (by kernel_rfl) (fun K hK => ?_)
  go_simp
  refine (S115 _).mono ?_
  rintro e w' ⟨rfl, rfl⟩
  go_simp
  refine hK _ _ ?_
  clear hK K
  refine wl_do (by kernel_rfl) (fun K hK => ?_)
  go_simp
  refine hK _ _ ?_
  clear hK K
  by_cases h2 : m.m.sq = 0
  case neg =>
    have Z2 := Lib.hid (show (m.m.sq == 0) = false by simpa using h2)
    have z2 := Z2.out
    clear h2
    iterate 6 (refine wl_do (by kernel_rfl) (fun K hK => ?_); go_simp; refine hK _ _ ?_; clear hK K)
    iterate 7 (refine wl_skip (by kernel_rfl) ?_)
    iterate 2 (refine wl_do (by kernel_rfl) (fun K hK => ?_); go_simp; refine hK _ _ ?_; clear hK K)
    iterate 8 (refine wl_skip (by kernel_rfl) ?_)
    iterate 2 (refine wl_do (by kernel_rfl) (fun K hK => ?_); go_simp; refine hK _ _ ?_; clear hK K)
    iterate 8 (refine wl_skip (by kernel_rfl) ?_)
    iterate 2 (refine wl_do (by kernel_rfl) (fun K hK => ?_); go_simp; refine hK _ _ ?_; clear hK K)
    iterate 8 (refine wl_skip (by kernel_rfl) ?_)
    iterate 2 (refine wl_do (by kernel_rfl) (fun K hK => ?_); go_simp; refine hK _ _ ?_; clear hK K)
    iterate 8 (refine wl_skip (by kernel_rfl) ?_)
    iterate 2 (refine wl_do (by kernel_rfl) (fun K hK => ?_); go_simp; refine hK _ _ ?_; clear hK K)
    refine wl_nil ?_
    clear S118 S105 S115 S114 S98 S111 S99 S112
    go_wp2_with fail
    go_ret
    exact ⟨congrArg (fun b => Ending.returned (.bool b)) (show false = blankS true false false false false true true false m.m by unfold blankS; rw [Z2.out]; simp), HB.out⟩
  have Z2 := Lib.hid (show (m.m.sq == 0) = true by simpa using h2)
  have z2 := Z2.out
  clear h2
  iterate 7 (refine wl_do (by kernel_rfl) (fun K hK => ?_); go_simp; refine hK _ _ ?_; clear hK K)
  refine wl_do (by kernel_rfl) (fun K hK => ?_)
  go_simp
  refine (S114 _).mono ?_
  rintro e w' ⟨rfl, rfl⟩
  go_simp
  refine hK _ _ ?_
  clear hK K
  refine wl_do (by kernel_rfl) (fun K hK => ?_)
  go_simp
  refine hK _ _ ?_
  clear hK K
  by_cases h3 : m.m.rs = 0
  case neg =>
    have Z3 := Lib.hid (show (m.m.rs == 0) = false by simpa using h3)
    have z3 := Z3.out
    clear h3
    iterate 6 (refine wl_do (by kernel_rfl) (fun K hK => ?_); go_simp; refine hK _ _ ?_; clear hK K)
    iterate 8 (refine wl_skip (by kernel_rfl) ?_)
    iterate 2 (refine wl_do (by kernel_rfl) (fun K hK => ?_); go_simp; refine hK _ _ ?_; clear hK K)
    iterate 8 (refine wl_skip (by kernel_rfl) ?_)
    iterate 2 (refine wl_do (by kernel_rfl) (fun K hK => ?_); go_simp; refine hK _ _ ?_; clear hK K)
    iterate 8 (refine wl_skip (by kernel_rfl) ?_)
    iterate 2 (refine wl_do (by kernel_rfl) (fun K hK => ?_); go_simp; refine hK _ _ ?_; clear hK K)
    iterate 8 (refine wl_skip (by kernel_rfl) ?_)
    iterate 2 (refine wl_do (by kernel_rfl) (fun K hK => ?_); go_simp; refine hK _ _ ?_; clear hK K)
    refine wl_nil ?_
    clear S118 S105 S115 S114 S98 S111 S99 S112
    go_wp2_with fail
    go_ret
    exact ⟨congrArg (fun b => Ending.returned (.bool b)) (show false = blankS true false false false false true true false m.m by unfold blankS; rw [Z3.out]; simp), HB.out⟩
  have Z3 := Lib.hid (show (m.m.rs == 0) = true by simpa using h3)
  have z3 := Z3.out
  clear h3
  iterate 7 (refine wl_do (by kernel_rfl) (fun K hK => ?_); go_simp; refine hK _ _ ?_; clear hK K)
  refine wl_do (by kernel_rfl) (fun K hK => ?_)
  go_simp
  refine (S98 _).mono ?_
  rintro e w' ⟨rfl, rfl⟩
  go_simp
  refine hK _ _ ?_
  clear hK K
  refine wl_do (by kernel_rfl) (fun K hK => ?_)
  go_simp
  refine hK _ _ ?_
  clear hK K
  by_cases h4 : m.m.bt.length = 0
  case neg =>
    have Z4 := Lib.hid (show (m.m.bt.length == 0) = false by simpa using h4)
    have z4 : ((m.m.bt.length : Int) == 0) = false := by rw [beq_eq_false_iff_ne]; omega
    have y4 := Z4.out
    clear h4
    iterate 7 (refine wl_do (by kernel_rfl) (fun K hK => ?_); go_simp; refine hK _ _ ?_; clear hK K)
    iterate 8 (refine wl_skip (by kernel_rfl) ?_)
    iterate 2 (refine wl_do (by kernel_rfl) (fun K hK => ?_); go_simp; refine hK _ _ ?_; clear hK K)
    iterate 8 (refine wl_skip (by kernel_rfl) ?_)
    iterate 2 (refine wl_do (by kernel_rfl) (fun K hK => ?_); go_simp; refine hK _ _ ?_; clear hK K)
    iterate 8 (refine wl_skip (by kernel_rfl) ?_)
    iterate 2 (refine wl_do (by kernel_rfl) (fun K hK => ?_); go_simp; refine hK _ _ ?_; clear hK K)
    refine wl_nil ?_
    clear S118 S105 S115 S114 S98 S111 S99 S112
    go_wp2_with fail
    go_ret
    exact ⟨congrArg (fun b => Ending.returned (.bool b)) (show false = blankS true false false false false true true false m.m by unfold blankS; rw [Z4.out]; simp), HB.out⟩
  have Z4 := Lib.hid (show (m.m.bt.length == 0) = true by simpa using h4)
  have z4 : ((m.m.bt.length : Int) == 0) = true := by rw [beq_iff_eq]; omega
  have y4 := Z4.out
  clear h4
  iterate 8 (refine wl_do (by kernel_rfl) (fun K hK => ?_); go_simp; refine hK _ _ ?_; clear hK K)
  refine wl_do (by kernel_rfl) (fun K hK => ?_)
  go_simp
  refine (S111 _).mono ?_
  rintro e w' ⟨rfl, rfl⟩
  go_simp
  refine hK _ _ ?_
  clear hK K
  refine wl_do (by kernel_rfl) (fun K hK => ?_)
  go_simp
  refine hK _ _ ?_
  clear hK K
  iterate 4 (refine wl_skip (by kernel_rfl) ?_)
  iterate 4 (refine wl_do (by kernel_rfl) (fun K hK => ?_); go_simp; refine hK _ _ ?_; clear hK K)
  refine wl_do (by kernel_rfl) (fun K hK => ?_)
  go_simp
  refine (S99 _).mono ?_
  rintro e w' ⟨rfl, rfl⟩
  go_simp
  refine hK _ _ ?_
  clear hK K
  refine wl_do (by kernel_rfl) (fun K hK => ?_)
  go_simp
  refine hK _ _ ?_
  clear hK K
  iterate 4 (refine wl_skip (by kernel_rfl) ?_)
  iterate 4 (refine wl_do (by kernel_rfl) (fun K hK => ?_); go_simp; refine hK _ _ ?_; clear hK K)
  refine wl_do (by kernel_rfl) (fun K hK => ?_)
  go_simp
  refine (S112 _).mono ?_
  rintro e w' ⟨rfl, rfl⟩
  go_simp
  refine hK _ _ ?_
  clear hK K
  refine wl_do (by kernel_rfl) (fun K hK => ?_)
  go_simp
  refine hK _ _ ?_
  clear hK K
  by_cases h7 : m.m.ps.length = 0
  case neg =>
    have Z7 := Lib.hid (show (m.m.ps.length == 0) = false by simpa using h7)
    have z7 : ((m.m.ps.length : Int) == 0) = false := by rw [beq_eq_false_iff_ne]; omega
    have y7 := Z7.out
    clear h7
    iterate 7 (refine wl_do (by kernel_rfl) (fun K hK => ?_); go_simp; refine hK _ _ ?_; clear hK K)
    refine wl_nil ?_
    clear S118 S105 S115 S114 S98 S111 S99 S112
    go_wp2_with fail
    go_ret
    exact ⟨congrArg (fun b => Ending.returned (.bool b)) (show false = blankS true false false false false true true false m.m by unfold blankS; rw [Z7.out]; simp), HB.out⟩
  have Z7 := Lib.hid (show (m.m.ps.length == 0) = true by simpa using h7)
  have z7 : ((m.m.ps.length : Int) == 0) = true := by rw [beq_iff_eq]; omega
  have y7 := Z7.out
  clear h7
  iterate 7 (refine wl_do (by kernel_rfl) (fun K hK => ?_); go_simp; refine hK _ _ ?_; clear hK K)
  refine wl_nil ?_
  clear S118 S105 S115 S114 S98 S111 S99 S112
  go_wp2_with fail
  go_ret
  exact ⟨congrArg (fun b => Ending.returned (.bool b)) (show true = blankS true false false false false true true false m.m by unfold blankS; rw [Z1.out, Z2.out, Z3.out, Z4.out, Z7.out]; rfl), HB.out⟩
end Go.Proofs.YtbegjadohamkkaaGreat
/- The contract of the document's blank where the text names vip. -/
namespace Go.Proofs.YtbegjadohamkkaaGreat
open Go.RowKit

set_option maxHeartbeats 8000000 in
set_option maxRecDepth 100000 in
theorem rblank_vip (m : Ms) (w : World) :
    Calls Tryz.prog 79 #[.agg #[.int .i64 m.m.kd, .int .i64 m.m.fr, .int .i64 m.m.vw, .int .i64 m.m.ins, .int .i64 m.m.sq, .int .i64 m.m.rs, .slice m.A1 m.m.bt.length m.c1, .slice m.A2 m.m.vs.length m.c2, .slice m.A3 m.m.cs.length m.c3, .slice m.A4 m.m.ps.length m.c4], .string ⟨#[118, 105, 112]⟩] w fun e w' => e = .returned (.bool (blankS true true false false false false false true m.m)) ∧ Below w.heap.size w w' := by
  have HB := Lib.hid (show Below w.heap.size w (w.alloc (.cells #[.int .i64 m.m.kd, .int .i64 m.m.fr, .int .i64 m.m.vw, .int .i64 m.m.ins, .int .i64 m.m.sq, .int .i64 m.m.rs, .slice m.A1 m.m.bt.length m.c1, .slice m.A2 m.m.vs.length m.c2, .slice m.A3 m.m.cs.length m.c3, .slice m.A4 m.m.ps.length m.c4] 38)) from (Below.refl _ w).alloc (Nat.le_refl _) _)
  have S118 : ∀ w : World, Calls Tryz.prog 128 #[.string ⟨#[118, 105, 112]⟩, .int .u8 118] w fun e w' => e = .returned (.bool true) ∧ w' = w := fun w => (rsign_any ⟨#[118, 105, 112]⟩ 118 (by decide) w).mono (fun e w' h => ⟨h.1.trans (by rfl), h.2⟩)
  have S105 : ∀ w : World, Calls Tryz.prog 128 #[.string ⟨#[118, 105, 112]⟩, .int .u8 105] w fun e w' => e = .returned (.bool true) ∧ w' = w := fun w => (rsign_any ⟨#[118, 105, 112]⟩ 105 (by decide) w).mono (fun e w' h => ⟨h.1.trans (by rfl), h.2⟩)
  have S115 : ∀ w : World, Calls Tryz.prog 128 #[.string ⟨#[118, 105, 112]⟩, .int .u8 115] w fun e w' => e = .returned (.bool false) ∧ w' = w := fun w => (rsign_any ⟨#[118, 105, 112]⟩ 115 (by decide) w).mono (fun e w' h => ⟨h.1.trans (by rfl), h.2⟩)
  have S114 : ∀ w : World, Calls Tryz.prog 128 #[.string ⟨#[118, 105, 112]⟩, .int .u8 114] w fun e w' => e = .returned (.bool false) ∧ w' = w := fun w => (rsign_any ⟨#[118, 105, 112]⟩ 114 (by decide) w).mono (fun e w' h => ⟨h.1.trans (by rfl), h.2⟩)
  have S98 : ∀ w : World, Calls Tryz.prog 128 #[.string ⟨#[118, 105, 112]⟩, .int .u8 98] w fun e w' => e = .returned (.bool false) ∧ w' = w := fun w => (rsign_any ⟨#[118, 105, 112]⟩ 98 (by decide) w).mono (fun e w' h => ⟨h.1.trans (by rfl), h.2⟩)
  have S111 : ∀ w : World, Calls Tryz.prog 128 #[.string ⟨#[118, 105, 112]⟩, .int .u8 111] w fun e w' => e = .returned (.bool false) ∧ w' = w := fun w => (rsign_any ⟨#[118, 105, 112]⟩ 111 (by decide) w).mono (fun e w' h => ⟨h.1.trans (by rfl), h.2⟩)
  have S99 : ∀ w : World, Calls Tryz.prog 128 #[.string ⟨#[118, 105, 112]⟩, .int .u8 99] w fun e w' => e = .returned (.bool false) ∧ w' = w := fun w => (rsign_any ⟨#[118, 105, 112]⟩ 99 (by decide) w).mono (fun e w' h => ⟨h.1.trans (by rfl), h.2⟩)
  have S112 : ∀ w : World, Calls Tryz.prog 128 #[.string ⟨#[118, 105, 112]⟩, .int .u8 112] w fun e w' => e = .returned (.bool true) ∧ w' = w := fun w => (rsign_any ⟨#[118, 105, 112]⟩ 112 (by decide) w).mono (fun e w' h => ⟨h.1.trans (by rfl), h.2⟩)
  go_enter Tryz.func79, Tryz.ntmps79
  go_upto_region 1 with fail
  refine wp_region_lit ?_
  refine wl_out ?_
  refine wl_do (by kernel_rfl) (fun K hK => ?_)
  go_simp
  refine hK _ _ ?_
  clear hK K
  refine wl_do (by kernel_rfl) (fun K hK => ?_)
  go_simp
  refine (S118 _).mono ?_
  rintro e w' ⟨rfl, rfl⟩
  go_simp
  refine hK _ _ ?_
  clear hK K
  refine wl_do (by kernel_rfl) (fun K hK => ?_)
  go_simp
  refine hK _ _ ?_
  clear hK K
  iterate 3 (refine wl_skip (by kernel_rfl) ?_)
  iterate 3 (refine wl_do (by kernel_rfl) (fun K hK => ?_); go_simp; refine hK _ _ ?_; clear hK K)
  refine wl_do (by kernel_rfl) (fun K hK => ?_)
  go_simp
  refine (S105 _).mono ?_
  rintro e w' ⟨rfl, rfl⟩
  go_simp
  refine hK _ _ ?_
  clear hK K
  refine wl_do (by kernel_rfl) (fun K hK => ?_)
  go_simp
  refine hK _ _ ?_
  clear hK K
  iterate 3 (refine wl_skip (by kernel_rfl) ?_)
  iterate 4 (refine wl_do (by kernel_rfl) (fun K hK => ?_); go_simp; refine hK _ _ ?_; clear hK K)
  refine wl_do (by kernel_rfl) (fun K hK => ?_)
  go_simp
  refine (S115 _).mono ?_
  rintro e w' ⟨rfl, rfl⟩
  go_simp
  refine hK _ _ ?_
  clear hK K
  refine wl_do (by kernel_rfl) (fun K hK => ?_)
  go_simp
  refine hK _ _ ?_
  clear hK K
  by_cases h2 : m.m.sq = 0
  case neg =>
    have Z2 := Lib.hid (show (m.m.sq == 0) = false by simpa using h2)
    have z2 := Z2.out
    clear h2
    iterate 6 (refine wl_do (by kernel_rfl) (fun K hK => ?_); go_simp; refine hK _ _ ?_; clear hK K)
    iterate 7 (refine wl_skip (by kernel_rfl) ?_)
    iterate 2 (refine wl_do (by kernel_rfl) (fun K hK => ?_); go_simp; refine hK _ _ ?_; clear hK K)
    iterate 8 (refine wl_skip (by kernel_rfl) ?_)
    iterate 2 (refine wl_do (by kernel_rfl) (fun K hK => ?_); go_simp; refine hK _ _ ?_; clear hK K)
    iterate 8 (refine wl_skip (by kernel_rfl) ?_)
    iterate 2 (refine wl_do (by kernel_rfl) (fun K hK => ?_); go_simp; refine hK _ _ ?_; clear hK K)
    iterate 8 (refine wl_skip (by kernel_rfl) ?_)
    iterate 2 (refine wl_do (by kernel_rfl) (fun K hK => ?_); go_simp; refine hK _ _ ?_; clear hK K)
    iterate 8 (refine wl_skip (by kernel_rfl) ?_)
    iterate 2 (refine wl_do (by kernel_rfl) (fun K hK => ?_); go_simp; refine hK _ _ ?_; clear hK K)
    refine wl_nil ?_
    clear S118 S105 S115 S114 S98 S111 S99 S112
    go_wp2_with fail
    go_ret
    exact ⟨congrArg (fun b => Ending.returned (.bool b)) (show false = blankS true true false false false false false true m.m by unfold blankS; rw [Z2.out]; simp), HB.out⟩
  have Z2 := Lib.hid (show (m.m.sq == 0) = true by simpa using h2)
  have z2 := Z2.out
  clear h2
  iterate 7 (refine wl_do (by kernel_rfl) (fun K hK => ?_); go_simp; refine hK _ _ ?_; clear hK K)
  refine wl_do (by kernel_rfl) (fun K hK => ?_)
  go_simp
  refine (S114 _).mono ?_
  rintro e w' ⟨rfl, rfl⟩
  go_simp
  refine hK _ _ ?_
  clear hK K
  refine wl_do (by kernel_rfl) (fun K hK => ?_)
  go_simp
  refine hK _ _ ?_
  clear hK K
  by_cases h3 : m.m.rs = 0
  case neg =>
    have Z3 := Lib.hid (show (m.m.rs == 0) = false by simpa using h3)
    have z3 := Z3.out
    clear h3
    iterate 6 (refine wl_do (by kernel_rfl) (fun K hK => ?_); go_simp; refine hK _ _ ?_; clear hK K)
    iterate 8 (refine wl_skip (by kernel_rfl) ?_)
    iterate 2 (refine wl_do (by kernel_rfl) (fun K hK => ?_); go_simp; refine hK _ _ ?_; clear hK K)
    iterate 8 (refine wl_skip (by kernel_rfl) ?_)
    iterate 2 (refine wl_do (by kernel_rfl) (fun K hK => ?_); go_simp; refine hK _ _ ?_; clear hK K)
    iterate 8 (refine wl_skip (by kernel_rfl) ?_)
    iterate 2 (refine wl_do (by kernel_rfl) (fun K hK => ?_); go_simp; refine hK _ _ ?_; clear hK K)
    iterate 8 (refine wl_skip (by kernel_rfl) ?_)
    iterate 2 (refine wl_do (by kernel_rfl) (fun K hK => ?_); go_simp; refine hK _ _ ?_; clear hK K)
    refine wl_nil ?_
    clear S118 S105 S115 S114 S98 S111 S99 S112
    go_wp2_with fail
    go_ret
    exact ⟨congrArg (fun b => Ending.returned (.bool b)) (show false = blankS true true false false false false false true m.m by unfold blankS; rw [Z3.out]; simp), HB.out⟩
  have Z3 := Lib.hid (show (m.m.rs == 0) = true by simpa using h3)
  have z3 := Z3.out
  clear h3
  iterate 7 (refine wl_do (by kernel_rfl) (fun K hK => ?_); go_simp; refine hK _ _ ?_; clear hK K)
  refine wl_do (by kernel_rfl) (fun K hK => ?_)
  go_simp
  refine (S98 _).mono ?_
  rintro e w' ⟨rfl, rfl⟩
  go_simp
  refine hK _ _ ?_
  clear hK K
  refine wl_do (by kernel_rfl) (fun K hK => ?_)
  go_simp
  refine hK _ _ ?_
  clear hK K
  by_cases h4 : m.m.bt.length = 0
  case neg =>
    have Z4 := Lib.hid (show (m.m.bt.length == 0) = false by simpa using h4)
    have z4 : ((m.m.bt.length : Int) == 0) = false := by rw [beq_eq_false_iff_ne]; omega
    have y4 := Z4.out
    clear h4
    iterate 7 (refine wl_do (by kernel_rfl) (fun K hK => ?_); go_simp; refine hK _ _ ?_; clear hK K)
    iterate 8 (refine wl_skip (by kernel_rfl) ?_)
    iterate 2 (refine wl_do (by kernel_rfl) (fun K hK => ?_); go_simp; refine hK _ _ ?_; clear hK K)
    iterate 8 (refine wl_skip (by kernel_rfl) ?_)
    iterate 2 (refine wl_do (by kernel_rfl) (fun K hK => ?_); go_simp; refine hK _ _ ?_; clear hK K)
    iterate 8 (refine wl_skip (by kernel_rfl) ?_)
    iterate 2 (refine wl_do (by kernel_rfl) (fun K hK => ?_); go_simp; refine hK _ _ ?_; clear hK K)
    refine wl_nil ?_
    clear S118 S105 S115 S114 S98 S111 S99 S112
    go_wp2_with fail
    go_ret
    exact ⟨congrArg (fun b => Ending.returned (.bool b)) (show false = blankS true true false false false false false true m.m by unfold blankS; rw [Z4.out]; simp), HB.out⟩
  have Z4 := Lib.hid (show (m.m.bt.length == 0) = true by simpa using h4)
  have z4 : ((m.m.bt.length : Int) == 0) = true := by rw [beq_iff_eq]; omega
  have y4 := Z4.out
  clear h4
  iterate 8 (refine wl_do (by kernel_rfl) (fun K hK => ?_); go_simp; refine hK _ _ ?_; clear hK K)
  refine wl_do (by kernel_rfl) (fun K hK => ?_)
  go_simp
  refine (S111 _).mono ?_
  rintro e w' ⟨rfl, rfl⟩
  go_simp
  refine hK _ _ ?_
  clear hK K
  refine wl_do (by kernel_rfl) (fun K hK => ?_)
  go_simp
  refine hK _ _ ?_
  clear hK K
  by_cases h5 : m.m.vs.length = 0
  case neg =>
    have Z5 := Lib.hid (show (m.m.vs.length == 0) = false by simpa using h5)
    have z5 : ((m.m.vs.length : Int) == 0) = false := by rw [beq_eq_false_iff_ne]; omega
    have y5 := Z5.out
    clear h5
    iterate 7 (refine wl_do (by kernel_rfl) (fun K hK => ?_); go_simp; refine hK _ _ ?_; clear hK K)
    iterate 8 (refine wl_skip (by kernel_rfl) ?_)
    iterate 2 (refine wl_do (by kernel_rfl) (fun K hK => ?_); go_simp; refine hK _ _ ?_; clear hK K)
    iterate 8 (refine wl_skip (by kernel_rfl) ?_)
    iterate 2 (refine wl_do (by kernel_rfl) (fun K hK => ?_); go_simp; refine hK _ _ ?_; clear hK K)
    refine wl_nil ?_
    clear S118 S105 S115 S114 S98 S111 S99 S112
    go_wp2_with fail
    go_ret
    exact ⟨congrArg (fun b => Ending.returned (.bool b)) (show false = blankS true true false false false false false true m.m by unfold blankS; rw [Z5.out]; simp), HB.out⟩
  have Z5 := Lib.hid (show (m.m.vs.length == 0) = true by simpa using h5)
  have z5 : ((m.m.vs.length : Int) == 0) = true := by rw [beq_iff_eq]; omega
  have y5 := Z5.out
  clear h5
  iterate 8 (refine wl_do (by kernel_rfl) (fun K hK => ?_); go_simp; refine hK _ _ ?_; clear hK K)
  refine wl_do (by kernel_rfl) (fun K hK => ?_)
  go_simp
  refine (S99 _).mono ?_
  rintro e w' ⟨rfl, rfl⟩
  go_simp
  refine hK _ _ ?_
  clear hK K
  refine wl_do (by kernel_rfl) (fun K hK => ?_)
  go_simp
  refine hK _ _ ?_
  clear hK K
  by_cases h6 : m.m.cs.length = 0
  case neg =>
    have Z6 := Lib.hid (show (m.m.cs.length == 0) = false by simpa using h6)
    have z6 : ((m.m.cs.length : Int) == 0) = false := by rw [beq_eq_false_iff_ne]; omega
    have y6 := Z6.out
    clear h6
    iterate 7 (refine wl_do (by kernel_rfl) (fun K hK => ?_); go_simp; refine hK _ _ ?_; clear hK K)
    iterate 8 (refine wl_skip (by kernel_rfl) ?_)
    iterate 2 (refine wl_do (by kernel_rfl) (fun K hK => ?_); go_simp; refine hK _ _ ?_; clear hK K)
    refine wl_nil ?_
    clear S118 S105 S115 S114 S98 S111 S99 S112
    go_wp2_with fail
    go_ret
    exact ⟨congrArg (fun b => Ending.returned (.bool b)) (show false = blankS true true false false false false false true m.m by unfold blankS; rw [Z6.out]; simp), HB.out⟩
  have Z6 := Lib.hid (show (m.m.cs.length == 0) = true by simpa using h6)
  have z6 : ((m.m.cs.length : Int) == 0) = true := by rw [beq_iff_eq]; omega
  have y6 := Z6.out
  clear h6
  iterate 8 (refine wl_do (by kernel_rfl) (fun K hK => ?_); go_simp; refine hK _ _ ?_; clear hK K)
  refine wl_do (by kernel_rfl) (fun K hK => ?_)
  go_simp
  refine (S112 _).mono ?_
  rintro e w' ⟨rfl, rfl⟩
  go_simp
  refine hK _ _ ?_
  clear hK K
  refine wl_do (by kernel_rfl) (fun K hK => ?_)
  go_simp
  refine hK _ _ ?_
  clear hK K
  iterate 4 (refine wl_skip (by kernel_rfl) ?_)
  iterate 3 (refine wl_do (by kernel_rfl) (fun K hK => ?_); go_simp; refine hK _ _ ?_; clear hK K)
  refine wl_nil ?_
  clear S118 S105 S115 S114 S98 S111 S99 S112
  go_wp2_with fail
  go_ret
  exact ⟨congrArg (fun b => Ending.returned (.bool b)) (show true = blankS true true false false false false false true m.m by unfold blankS; rw [Z2.out, Z3.out, Z4.out, Z5.out, Z6.out]; rfl), HB.out⟩
end Go.Proofs.YtbegjadohamkkaaGreat
/- The contract of the document's blank where the text names isr. -/
namespace Go.Proofs.YtbegjadohamkkaaGreat
open Go.RowKit

set_option maxHeartbeats 8000000 in
set_option maxRecDepth 100000 in
theorem rblank_isr (m : Ms) (w : World) :
    Calls Tryz.prog 79 #[.agg #[.int .i64 m.m.kd, .int .i64 m.m.fr, .int .i64 m.m.vw, .int .i64 m.m.ins, .int .i64 m.m.sq, .int .i64 m.m.rs, .slice m.A1 m.m.bt.length m.c1, .slice m.A2 m.m.vs.length m.c2, .slice m.A3 m.m.cs.length m.c3, .slice m.A4 m.m.ps.length m.c4], .string ⟨#[105, 115, 114]⟩] w fun e w' => e = .returned (.bool (blankS false true true true false false false false m.m)) ∧ Below w.heap.size w w' := by
  have HB := Lib.hid (show Below w.heap.size w (w.alloc (.cells #[.int .i64 m.m.kd, .int .i64 m.m.fr, .int .i64 m.m.vw, .int .i64 m.m.ins, .int .i64 m.m.sq, .int .i64 m.m.rs, .slice m.A1 m.m.bt.length m.c1, .slice m.A2 m.m.vs.length m.c2, .slice m.A3 m.m.cs.length m.c3, .slice m.A4 m.m.ps.length m.c4] 38)) from (Below.refl _ w).alloc (Nat.le_refl _) _)
  have S118 : ∀ w : World, Calls Tryz.prog 128 #[.string ⟨#[105, 115, 114]⟩, .int .u8 118] w fun e w' => e = .returned (.bool false) ∧ w' = w := fun w => (rsign_any ⟨#[105, 115, 114]⟩ 118 (by decide) w).mono (fun e w' h => ⟨h.1.trans (by rfl), h.2⟩)
  have S105 : ∀ w : World, Calls Tryz.prog 128 #[.string ⟨#[105, 115, 114]⟩, .int .u8 105] w fun e w' => e = .returned (.bool true) ∧ w' = w := fun w => (rsign_any ⟨#[105, 115, 114]⟩ 105 (by decide) w).mono (fun e w' h => ⟨h.1.trans (by rfl), h.2⟩)
  have S115 : ∀ w : World, Calls Tryz.prog 128 #[.string ⟨#[105, 115, 114]⟩, .int .u8 115] w fun e w' => e = .returned (.bool true) ∧ w' = w := fun w => (rsign_any ⟨#[105, 115, 114]⟩ 115 (by decide) w).mono (fun e w' h => ⟨h.1.trans (by rfl), h.2⟩)
  have S114 : ∀ w : World, Calls Tryz.prog 128 #[.string ⟨#[105, 115, 114]⟩, .int .u8 114] w fun e w' => e = .returned (.bool true) ∧ w' = w := fun w => (rsign_any ⟨#[105, 115, 114]⟩ 114 (by decide) w).mono (fun e w' h => ⟨h.1.trans (by rfl), h.2⟩)
  have S98 : ∀ w : World, Calls Tryz.prog 128 #[.string ⟨#[105, 115, 114]⟩, .int .u8 98] w fun e w' => e = .returned (.bool false) ∧ w' = w := fun w => (rsign_any ⟨#[105, 115, 114]⟩ 98 (by decide) w).mono (fun e w' h => ⟨h.1.trans (by rfl), h.2⟩)
  have S111 : ∀ w : World, Calls Tryz.prog 128 #[.string ⟨#[105, 115, 114]⟩, .int .u8 111] w fun e w' => e = .returned (.bool false) ∧ w' = w := fun w => (rsign_any ⟨#[105, 115, 114]⟩ 111 (by decide) w).mono (fun e w' h => ⟨h.1.trans (by rfl), h.2⟩)
  have S99 : ∀ w : World, Calls Tryz.prog 128 #[.string ⟨#[105, 115, 114]⟩, .int .u8 99] w fun e w' => e = .returned (.bool false) ∧ w' = w := fun w => (rsign_any ⟨#[105, 115, 114]⟩ 99 (by decide) w).mono (fun e w' h => ⟨h.1.trans (by rfl), h.2⟩)
  have S112 : ∀ w : World, Calls Tryz.prog 128 #[.string ⟨#[105, 115, 114]⟩, .int .u8 112] w fun e w' => e = .returned (.bool false) ∧ w' = w := fun w => (rsign_any ⟨#[105, 115, 114]⟩ 112 (by decide) w).mono (fun e w' h => ⟨h.1.trans (by rfl), h.2⟩)
  go_enter Tryz.func79, Tryz.ntmps79
  go_upto_region 1 with fail
  refine wp_region_lit ?_
  refine wl_out ?_
  refine wl_do (by kernel_rfl) (fun K hK => ?_)
  go_simp
  refine hK _ _ ?_
  clear hK K
  refine wl_do (by kernel_rfl) (fun K hK => ?_)
  go_simp
  refine (S118 _).mono ?_
  rintro e w' ⟨rfl, rfl⟩
  go_simp
  refine hK _ _ ?_
  clear hK K
  refine wl_do (by kernel_rfl) (fun K hK => ?_)
  go_simp
  refine hK _ _ ?_
  clear hK K
  by_cases h0 : m.m.vw = 0
  case neg =>
    have Z0 := Lib.hid (show (m.m.vw == 0) = false by simpa using h0)
    have z0 := Z0.out
    clear h0
    iterate 5 (refine wl_do (by kernel_rfl) (fun K hK => ?_); go_simp; refine hK _ _ ?_; clear hK K)
    iterate 7 (refine wl_skip (by kernel_rfl) ?_)
    iterate 2 (refine wl_do (by kernel_rfl) (fun K hK => ?_); go_simp; refine hK _ _ ?_; clear hK K)
    iterate 7 (refine wl_skip (by kernel_rfl) ?_)
    iterate 2 (refine wl_do (by kernel_rfl) (fun K hK => ?_); go_simp; refine hK _ _ ?_; clear hK K)
    iterate 7 (refine wl_skip (by kernel_rfl) ?_)
    iterate 2 (refine wl_do (by kernel_rfl) (fun K hK => ?_); go_simp; refine hK _ _ ?_; clear hK K)
    iterate 8 (refine wl_skip (by kernel_rfl) ?_)
    iterate 2 (refine wl_do (by kernel_rfl) (fun K hK => ?_); go_simp; refine hK _ _ ?_; clear hK K)
    iterate 8 (refine wl_skip (by kernel_rfl) ?_)
    iterate 2 (refine wl_do (by kernel_rfl) (fun K hK => ?_); go_simp; refine hK _ _ ?_; clear hK K)
    iterate 8 (refine wl_skip (by kernel_rfl) ?_)
    iterate 2 (refine wl_do (by kernel_rfl) (fun K hK => ?_); go_simp; refine hK _ _ ?_; clear hK K)
    iterate 8 (refine wl_skip (by kernel_rfl) ?_)
    iterate 2 (refine wl_do (by kernel_rfl) (fun K hK => ?_); go_simp; refine hK _ _ ?_; clear hK K)
    refine wl_nil ?_
    clear S118 S105 S115 S114 S98 S111 S99 S112
    go_wp2_with fail
    go_ret
    exact ⟨congrArg (fun b => Ending.returned (.bool b)) (show false = blankS false true true true false false false false m.m by unfold blankS; rw [Z0.out]; simp), HB.out⟩
  have Z0 := Lib.hid (show (m.m.vw == 0) = true by simpa using h0)
  have z0 := Z0.out
  clear h0
  iterate 6 (refine wl_do (by kernel_rfl) (fun K hK => ?_); go_simp; refine hK _ _ ?_; clear hK K)
  refine wl_do (by kernel_rfl) (fun K hK => ?_)
  go_simp
  refine (S105 _).mono ?_
  rintro e w' ⟨rfl, rfl⟩
  go_simp
  refine hK _ _ ?_
  clear hK K
  refine wl_do (by kernel_rfl) (fun K hK => ?_)
  go_simp
  refine hK _ _ ?_
  clear hK K
  iterate 3 (refine wl_skip (by kernel_rfl) ?_)
  iterate 4 (refine wl_do (by kernel_rfl) (fun K hK => ?_); go_simp; refine hK _ _ ?_; clear hK K)
  refine wl_do (by kernel_rfl) (fun K hK => ?_)
  go_simp
  refine (S115 _).mono ?_
  rintro e w' ⟨rfl, rfl⟩
  go_simp
  refine hK _ _ ?_
  clear hK K
  refine wl_do (by kernel_rfl) (fun K hK => ?_)
  go_simp
  refine hK _ _ ?_
  clear hK K
  iterate 3 (refine wl_skip (by kernel_rfl) ?_)
  iterate 4 (refine wl_do (by kernel_rfl) (fun K hK => ?_); go_simp; refine hK _ _ ?_; clear hK K)
  refine wl_do (by kernel_rfl) (fun K hK => ?_)
  go_simp
  refine (S114 _).mono ?_
  rintro e w' ⟨rfl, rfl⟩
  go_simp
  refine hK _ _ ?_
  clear hK K
  refine wl_do (by kernel_rfl) (fun K hK => ?_)
  go_simp
  refine hK _ _ ?_
  clear hK K
  iterate 3 (refine wl_skip (by kernel_rfl) ?_)
  iterate 4 (refine wl_do (by kernel_rfl) (fun K hK => ?_); go_simp; refine hK _ _ ?_; clear hK K)
  refine wl_do (by kernel_rfl) (fun K hK => ?_)
  go_simp
  refine (S98 _).mono ?_
  rintro e w' ⟨rfl, rfl⟩
  go_simp
  refine hK _ _ ?_
  clear hK K
  refine wl_do (by kernel_rfl) (fun K hK => ?_)
  go_simp
  refine hK _ _ ?_
  clear hK K
  by_cases h4 : m.m.bt.length = 0
  case neg =>
    have Z4 := Lib.hid (show (m.m.bt.length == 0) = false by simpa using h4)
    have z4 : ((m.m.bt.length : Int) == 0) = false := by rw [beq_eq_false_iff_ne]; omega
    have y4 := Z4.out
    clear h4
    iterate 7 (refine wl_do (by kernel_rfl) (fun K hK => ?_); go_simp; refine hK _ _ ?_; clear hK K)
    iterate 8 (refine wl_skip (by kernel_rfl) ?_)
    iterate 2 (refine wl_do (by kernel_rfl) (fun K hK => ?_); go_simp; refine hK _ _ ?_; clear hK K)
    iterate 8 (refine wl_skip (by kernel_rfl) ?_)
    iterate 2 (refine wl_do (by kernel_rfl) (fun K hK => ?_); go_simp; refine hK _ _ ?_; clear hK K)
    iterate 8 (refine wl_skip (by kernel_rfl) ?_)
    iterate 2 (refine wl_do (by kernel_rfl) (fun K hK => ?_); go_simp; refine hK _ _ ?_; clear hK K)
    refine wl_nil ?_
    clear S118 S105 S115 S114 S98 S111 S99 S112
    go_wp2_with fail
    go_ret
    exact ⟨congrArg (fun b => Ending.returned (.bool b)) (show false = blankS false true true true false false false false m.m by unfold blankS; rw [Z4.out]; simp), HB.out⟩
  have Z4 := Lib.hid (show (m.m.bt.length == 0) = true by simpa using h4)
  have z4 : ((m.m.bt.length : Int) == 0) = true := by rw [beq_iff_eq]; omega
  have y4 := Z4.out
  clear h4
  iterate 8 (refine wl_do (by kernel_rfl) (fun K hK => ?_); go_simp; refine hK _ _ ?_; clear hK K)
  refine wl_do (by kernel_rfl) (fun K hK => ?_)
  go_simp
  refine (S111 _).mono ?_
  rintro e w' ⟨rfl, rfl⟩
  go_simp
  refine hK _ _ ?_
  clear hK K
  refine wl_do (by kernel_rfl) (fun K hK => ?_)
  go_simp
  refine hK _ _ ?_
  clear hK K
  by_cases h5 : m.m.vs.length = 0
  case neg =>
    have Z5 := Lib.hid (show (m.m.vs.length == 0) = false by simpa using h5)
    have z5 : ((m.m.vs.length : Int) == 0) = false := by rw [beq_eq_false_iff_ne]; omega
    have y5 := Z5.out
    clear h5
    iterate 7 (refine wl_do (by kernel_rfl) (fun K hK => ?_); go_simp; refine hK _ _ ?_; clear hK K)
    iterate 8 (refine wl_skip (by kernel_rfl) ?_)
    iterate 2 (refine wl_do (by kernel_rfl) (fun K hK => ?_); go_simp; refine hK _ _ ?_; clear hK K)
    iterate 8 (refine wl_skip (by kernel_rfl) ?_)
    iterate 2 (refine wl_do (by kernel_rfl) (fun K hK => ?_); go_simp; refine hK _ _ ?_; clear hK K)
    refine wl_nil ?_
    clear S118 S105 S115 S114 S98 S111 S99 S112
    go_wp2_with fail
    go_ret
    exact ⟨congrArg (fun b => Ending.returned (.bool b)) (show false = blankS false true true true false false false false m.m by unfold blankS; rw [Z5.out]; simp), HB.out⟩
  have Z5 := Lib.hid (show (m.m.vs.length == 0) = true by simpa using h5)
  have z5 : ((m.m.vs.length : Int) == 0) = true := by rw [beq_iff_eq]; omega
  have y5 := Z5.out
  clear h5
  iterate 8 (refine wl_do (by kernel_rfl) (fun K hK => ?_); go_simp; refine hK _ _ ?_; clear hK K)
  refine wl_do (by kernel_rfl) (fun K hK => ?_)
  go_simp
  refine (S99 _).mono ?_
  rintro e w' ⟨rfl, rfl⟩
  go_simp
  refine hK _ _ ?_
  clear hK K
  refine wl_do (by kernel_rfl) (fun K hK => ?_)
  go_simp
  refine hK _ _ ?_
  clear hK K
  by_cases h6 : m.m.cs.length = 0
  case neg =>
    have Z6 := Lib.hid (show (m.m.cs.length == 0) = false by simpa using h6)
    have z6 : ((m.m.cs.length : Int) == 0) = false := by rw [beq_eq_false_iff_ne]; omega
    have y6 := Z6.out
    clear h6
    iterate 7 (refine wl_do (by kernel_rfl) (fun K hK => ?_); go_simp; refine hK _ _ ?_; clear hK K)
    iterate 8 (refine wl_skip (by kernel_rfl) ?_)
    iterate 2 (refine wl_do (by kernel_rfl) (fun K hK => ?_); go_simp; refine hK _ _ ?_; clear hK K)
    refine wl_nil ?_
    clear S118 S105 S115 S114 S98 S111 S99 S112
    go_wp2_with fail
    go_ret
    exact ⟨congrArg (fun b => Ending.returned (.bool b)) (show false = blankS false true true true false false false false m.m by unfold blankS; rw [Z6.out]; simp), HB.out⟩
  have Z6 := Lib.hid (show (m.m.cs.length == 0) = true by simpa using h6)
  have z6 : ((m.m.cs.length : Int) == 0) = true := by rw [beq_iff_eq]; omega
  have y6 := Z6.out
  clear h6
  iterate 8 (refine wl_do (by kernel_rfl) (fun K hK => ?_); go_simp; refine hK _ _ ?_; clear hK K)
  refine wl_do (by kernel_rfl) (fun K hK => ?_)
  go_simp
  refine (S112 _).mono ?_
  rintro e w' ⟨rfl, rfl⟩
  go_simp
  refine hK _ _ ?_
  clear hK K
  refine wl_do (by kernel_rfl) (fun K hK => ?_)
  go_simp
  refine hK _ _ ?_
  clear hK K
  by_cases h7 : m.m.ps.length = 0
  case neg =>
    have Z7 := Lib.hid (show (m.m.ps.length == 0) = false by simpa using h7)
    have z7 : ((m.m.ps.length : Int) == 0) = false := by rw [beq_eq_false_iff_ne]; omega
    have y7 := Z7.out
    clear h7
    iterate 7 (refine wl_do (by kernel_rfl) (fun K hK => ?_); go_simp; refine hK _ _ ?_; clear hK K)
    refine wl_nil ?_
    clear S118 S105 S115 S114 S98 S111 S99 S112
    go_wp2_with fail
    go_ret
    exact ⟨congrArg (fun b => Ending.returned (.bool b)) (show false = blankS false true true true false false false false m.m by unfold blankS; rw [Z7.out]; simp), HB.out⟩
  have Z7 := Lib.hid (show (m.m.ps.length == 0) = true by simpa using h7)
  have z7 : ((m.m.ps.length : Int) == 0) = true := by rw [beq_iff_eq]; omega
  have y7 := Z7.out
  clear h7
  iterate 7 (refine wl_do (by kernel_rfl) (fun K hK => ?_); go_simp; refine hK _ _ ?_; clear hK K)
  refine wl_nil ?_
  clear S118 S105 S115 S114 S98 S111 S99 S112
  go_wp2_with fail
  go_ret
  exact ⟨congrArg (fun b => Ending.returned (.bool b)) (show true = blankS false true true true false false false false m.m by unfold blankS; rw [Z0.out, Z4.out, Z5.out, Z6.out, Z7.out]; rfl), HB.out⟩
end Go.Proofs.YtbegjadohamkkaaGreat
