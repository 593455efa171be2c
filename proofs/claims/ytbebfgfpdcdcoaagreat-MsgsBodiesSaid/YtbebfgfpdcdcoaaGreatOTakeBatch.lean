/- The contract of pack.TakeBatch. -/
import Derived.Test.YtbebfgfpdcdcoaaGreatOTakeVotes
import Derived.Deep.MidRow
namespace Go.Proofs.YtbebfgfpdcdcoaaGreat
open Go.RowKit

theorem Tryz.info69 : (Tryz.prog.info? 69).map (fun i => (i.zero, i.size, i.bytes)) = some (some (.agg #[.int .i64 0, .int .i64 0, .int .i64 0, .int .i64 0, .int .i64 0, .int .i64 0]), 6, 48) := by kernel_rfl

/-- What TakeBatch answers. -/
def BatchTaken (zs : List Int) (i : Int) (w : World) (e : Ending) (w' : World) : Prop :=
  Below w.heap.size w w' ∧ ((∃ (l : List Rq) (k : Nat) (A : Option Addr) (c : Nat), tkBatch zs i = some (l, (k : Int)) ∧ k ≤ zs.length ∧ l.length ≤ 256 ∧ e = .returned (.tuple #[.slice A l.length c, .int .i64 k, .bool true]) ∧
      w'.ownsRow w.heap.size 69 6 (.slice A l.length c) l.length (reqCells l)) ∨
    (tkBatch zs i = none ∧ e = .returned (.tuple #[.slice none 0 0, .int .i64 0, .bool false])))
/-- The frame of TakeBatch. -/
def BatchFrame (B X L nx left p : Value) (a : Act) : Prop :=
  ∃ u2 u3 u6 u9 u10 u11 u12 u13 u14 u15 u16 u17 u18 u19 u20 u21 u22 u23 u24 u25 u26 u27 u28 u29 u30 u31 u32 u33 u34 u35 u36 : Value, a = { tmps := #[B, X, u2, u3, L, nx, u6, left, p, u9, u10, u11, u12, u13, u14, u15, u16, u17, u18, u19, u20, u21, u22, u23, u24, u25, u26, u27, u28, u29, u30, u31, u32, u33, u34, u35, u36], defers := [] }

/-- What holds at each label: 0: nothing is taken; 1: all are taken; 2: at the next request. -/
def BatchAt (X0 : Value) (i : Int) (zs : List Int) (w : World) (l : Nat) (a : Act) (w' : World) : Prop :=
  ∃ (L : Value) (nx : Nat) (left : Int) (done : List Rq) (c : Rq), BatchFrame X0 (.int .i64 i) L (.int .i64 nx) (.int .i64 left) (.pointer (some ⟨w.heap.size, 0, none⟩)) a ∧ Below w.heap.size w w' ∧ nx ≤ zs.length ∧
    Blk w' w.heap.size 69 #[.int .i64 c.cl, .int .i64 c.tm, .int .i64 c.kd, .int .i64 c.ky, .int .i64 c.vl, .int .i64 c.sg] ∧ w'.ownsRow (w.heap.size + 1) 69 6 L done.length (reqCells done) ∧
    ((l = 0 ∧ tkBatch zs i = none) ∨ (l = 1 ∧ tkBatch zs i = some (done, (nx : Int)) ∧ done.length ≤ 256) ∨ (l = 2 ∧ ∃ n : Nat, left = n ∧ done.length + n ≤ 256 ∧ tkBatch zs i = restOf (tkReq zs) done n nx))
theorem blk_six {w : World} {g : Nat} {t : TypeId} {a0 a1 a2 a3 a4 a5 : Value} (h : Blk w g t #[a0, a1, a2, a3, a4, a5]) (b0 b1 b2 b3 b4 b5 : Value) : Blk (w.setCells g 0 [b0, b1, b2, b3, b4, b5]) g t #[b0, b1, b2, b3, b4, b5] :=
  (((((h.set_ 0 b0).set_ 1 b1).set_ 2 b2).set_ 3 b3).set_ 4 b4).set_ 5 b5
theorem below_six {B : Nat} {a w : World} (h : Below B a w) (b0 b1 b2 b3 b4 b5 : Value) : Below B a (w.setCells B 0 [b0, b1, b2, b3, b4, b5]) :=
  (((((h.setCell (p := ⟨B, 0, none⟩) (Nat.le_refl _) b0).setCell (p := ⟨B, 1, none⟩) (Nat.le_refl _) b1).setCell (p := ⟨B, 2, none⟩) (Nat.le_refl _) b2).setCell (p := ⟨B, 3, none⟩) (Nat.le_refl _) b3).setCell (p := ⟨B, 4, none⟩) (Nat.le_refl _) b4).setCell (p := ⟨B, 5, none⟩) (Nat.le_refl _) b5
theorem own_six {w : World} {b n s g : Nat} {e : TypeId} {v : Value} {xs : List Value} (h : w.ownsRow b e s v n xs) (hg : g < b) (b0 b1 b2 b3 b4 b5 : Value) : (w.setCells g 0 [b0, b1, b2, b3, b4, b5]).ownsRow b e s v n xs :=
  own_far (own_far (own_far (own_far (own_far (own_far h (p := ⟨g, 0, none⟩) (own_blk_lt h hg) b0) (p := ⟨g, 1, none⟩) (own_blk_lt h hg) b1) (p := ⟨g, 2, none⟩) (own_blk_lt h hg) b2) (p := ⟨g, 3, none⟩) (own_blk_lt h hg) b3) (p := ⟨g, 4, none⟩) (own_blk_lt h hg) b4) (p := ⟨g, 5, none⟩) (own_blk_lt h hg) b5
theorem blk_there {w : World} {g : Nat} {t : TypeId} {cs : Array Value} (h : Blk w g t cs) : w.there g 0 cs.size := fun j hj => by
  refine ⟨?_, h.frozen _⟩
  rw [h.cell]
  simp [hj]
theorem req_size : (Tryz.prog.info? 69).map (·.size) = some 6 := by kernel_rfl
theorem one_six (a b c d e f : Int) : (#[.int .i64 a, .int .i64 b, .int .i64 c, .int .i64 d, .int .i64 e, .int .i64 f] : Array Value).all (·.oneCell') = true :=
  all_oneCell_toArray (cs := [.int .i64 a, .int .i64 b, .int .i64 c, .int .i64 d, .int .i64 e, .int .i64 f]) (by intro v hv; simp at hv; rcases hv with rfl | rfl | rfl | rfl | rfl | rfl <;> rfl)
theorem there_six {w : World} {g : Nat} {t : TypeId} {a0 a1 a2 a3 a4 a5 : Value} (h : Blk w g t #[a0, a1, a2, a3, a4, a5]) : w.there g 0 6 := blk_there h
/-- One request more. -/
theorem batch_more {w2 : World} {b : Nat} {done : List Rq} {v : Rq} {L2 : Value} (h : w2.ownsRow b 69 6 L2 (done.length + 1) (reqCells done ++ [.int .i64 v.cl, .int .i64 v.tm, .int .i64 v.kd, .int .i64 v.ky, .int .i64 v.vl, .int .i64 v.sg])) :
    w2.ownsRow b 69 6 L2 (done ++ [v]).length (reqCells (done ++ [v])) := by
  have e : reqCells (done ++ [v]) = reqCells done ++ [.int .i64 v.cl, .int .i64 v.tm, .int .i64 v.kd, .int .i64 v.ky, .int .i64 v.vl, .int .i64 v.sg] := by simp [reqCells, Rq.cells]
  rw [e, List.length_append]
  exact h

set_option maxHeartbeats 2000000 in
set_option maxRecDepth 100000 in
theorem take_batch (A : Option Addr) (cap : Nat) (zs : List Int) (B : Nat) (i : Int) (hl : zs.length ≤ 9223372036854775806) (hi : i ≤ 9223372036854775807) (hz : ∀ z ∈ zs, 0 ≤ z ∧ z ≤ 255) (w : World) (hB : B ≤ w.heap.size) (hh : Has w B A (u8s zs)) :
    Calls Tryz.prog 100 #[.slice A zs.length cap, .int .i64 i] w (BatchTaken zs i w) := by
  obtain ⟨i0, hinf, hy0, hy1, hy2⟩ := info_parts Tryz.info69
  have HH := Lib.hid (hh.more hB)
  have HN := Lib.hid (fun (i : Int) (hi : i ≤ 9223372036854775807) w B hB h => take_req A cap zs B i hl hi hz w hB h)
  have HL := Lib.hid (fun w B h => take_length A cap zs B i hl hi hz w h)
  clear hz hh
  go_enter Tryz.func100, Tryz.ntmps100
  go_wp2
  refine wp_scope_fall (BatchAt (.slice A zs.length cap) i zs w) (fun l a' _ => if l = 2 then (intOf (a'.tmps.getD 7 undef)).toNat + 1 else 0) ?_ ?_
  · rintro l a' w' ⟨L, nx, left, done, cc, ⟨u2, u3, u6, u9, u10, u11, u12, u13, u14, u15, u16, u17, u18, u19, u20, u21, u22, u23, u24, u25, u26, u27, u28, u29, u30, u31, u32, u33, u34, u35, u36, rfl⟩, hb, hnx, hblk, hown, hl3⟩
    have hbs := hb.size
    rcases hl3 with ⟨rfl, hr⟩ | ⟨rfl, hr, hd⟩ | ⟨rfl, n, rfl, hn, hr⟩
    · refine ⟨_, rfl, ?_⟩
      have HR : Hid (BatchTaken zs i w (.returned (.tuple #[.slice none 0 0, .int .i64 0, .bool false])) w') := ⟨hb, Or.inr ⟨hr, rfl⟩⟩
      clear hr
      go_wp2
      go_ret3
      exact HR.out
    · refine ⟨_, rfl, ?_⟩
      obtain ⟨A2, c2, rfl, _, _⟩ := own_slice hown
      have HR : Hid (BatchTaken zs i w (.returned (.tuple #[.slice A2 done.length c2, .int .i64 nx, .bool true])) w') := ⟨hb, Or.inl ⟨done, nx, A2, c2, hr, hnx, hd, rfl, own_base hown (Nat.le_succ _)⟩⟩
      clear hr hown hblk
      go_wp2
      go_ret3
      exact HR.out
    · refine ⟨_, rfl, ?_⟩
      have HR := Lib.hid hr
      have HO := Lib.hid hown
      have HBl := Lib.hid hblk
      have HB0 := Lib.hid hb
      have HH1 := Lib.hid (HH.out.below hb (Nat.le_refl _))
      clear hr hown hblk
      cases n with
      | zero =>
        rw [restOf_zero] at HR
        go_wp2
        go_step3
        go_wp2
        exact ⟨L, nx, _, done, cc, ⟨_, _, _, _, _, _, _, _, _, _, _, _, _, _, _, _, _, _, _, _, _, _, _, _, _, _, _, _, _, _, _, rfl⟩, hb, hnx, HBl.out, HO.out, Or.inr (Or.inl ⟨rfl, HR.out, by omega⟩)⟩
      | succ n =>
        have hne : (((n + 1 : Nat) : Int) == 0) = false := by simp; omega
        go_wp2_with fail
        refine (HN.out nx (by omega) _ _ hbs HH1.out).mono ?_
        rintro e w1 ⟨hb1, h1⟩
        have hb2 := hb.trans (hb1.mono hbs)
        have hblk1 := HBl.out.below hb1 HBl.out.lt
        have HB1 := Lib.hid hblk1
        have HO1 := Lib.hid (below_own HO.out hb1 (Nat.le_refl _))
        rcases h1 with ⟨r, k0, h1, hk0, rfl⟩ | ⟨h1, rfl⟩
        · have HF : Hid (tkBatch zs i = restOf (tkReq zs) (done ++ [r]) n k0) := HR.out.trans (restOf_some h1)
          obtain ⟨w2, hw2⟩ : ∃ w2, w1.setCells w.heap.size 0 [.int .i64 r.cl, .int .i64 r.tm, .int .i64 r.kd, .int .i64 r.ky, .int .i64 r.vl, .int .i64 r.sg] = w2 := ⟨_, rfl⟩
          have hblk2 : Blk w2 w.heap.size 69 #[.int .i64 r.cl, .int .i64 r.tm, .int .i64 r.kd, .int .i64 r.ky, .int .i64 r.vl, .int .i64 r.sg] := by rw [← hw2]; exact blk_six hblk1 _ _ _ _ _ _
          have hsz2 := hblk2.lt
          have HBl2 := Lib.hid (show Below w.heap.size w w2 by rw [← hw2]; exact below_six hb2 _ _ _ _ _ _)
          have HO2 := Lib.hid (show w2.ownsRow (w.heap.size + 1) 69 6 L done.length (reqCells done) by rw [← hw2]; exact own_six HO1.out (Nat.lt_succ_self _) _ _ _ _ _ _)
          have HB2 := Lib.hid hblk2
          have HW2 := Lib.hid hw2
          have HTh := Lib.hid (there_six hblk1)
          have hszw := hb2.size
          have de0 : w2.cell? ⟨w.heap.size, 0, none⟩ = some (.int .i64 r.cl) := hblk2.cell 0
          have de1 : w2.cell? ⟨w.heap.size, 1, none⟩ = some (.int .i64 r.tm) := hblk2.cell 1
          have de2 : w2.cell? ⟨w.heap.size, 2, none⟩ = some (.int .i64 r.kd) := hblk2.cell 2
          have de3 : w2.cell? ⟨w.heap.size, 3, none⟩ = some (.int .i64 r.ky) := hblk2.cell 3
          have de4 : w2.cell? ⟨w.heap.size, 4, none⟩ = some (.int .i64 r.vl) := hblk2.cell 4
          have de5 : w2.cell? ⟨w.heap.size, 5, none⟩ = some (.int .i64 r.sg) := hblk2.cell 5
          clear h1 hw2 hblk2 hblk1
          go_wp2_with (first | (refine wpList_store_mid rfl 69 (.tmp 8) (.tmp 26) rfl w.heap.size 0 #[.int .i64 r.cl, .int .i64 r.tm, .int .i64 r.kd, .int .i64 r.ky, .int .i64 r.vl, .int .i64 r.sg] rfl rfl HTh.out req_size (one_six _ _ _ _ _ _) ?_; rw [HW2.out]) | (at_builtin; refine wpList_append_own _ rfl (.tmp 31) (.tmp 33) 22 rfl (w.heap.size + 1) 69 i0 _ 6 48 Tryz.underlying22 hinf hy0 hy1 hy2 rfl (by decide) _ _ _ rfl (HO2.out.alloc _) ⟨w2.heap.size, 0, none⟩ 1 1 [.int .i64 r.cl, .int .i64 r.tm, .int .i64 r.kd, .int .i64 r.ky, .int .i64 r.vl, .int .i64 r.sg] rfl rfl ?c1 ?c2 ?c3 ?c4 ?c5 ?_))
          case c1 => exact World.news_of_block (cs := #[.int .i64 r.cl, .int .i64 r.tm, .int .i64 r.kd, .int .i64 r.ky, .int .i64 r.vl, .int .i64 r.sg]) (heap_alloc_new w2 (.cells #[.int .i64 r.cl, .int .i64 r.tm, .int .i64 r.kd, .int .i64 r.ky, .int .i64 r.vl, .int .i64 r.sg] 69))
          case c2 => intro u hu; simp at hu; rcases hu with rfl | rfl | rfl | rfl | rfl | rfl <;> rfl
          case c3 => unfold maxLen; omega
          case c4 => omega
          case c5 => simp; omega
          intro L2 w3 ho3 hg3 _
          have HO3 := Lib.hid (batch_more (v := r) ho3)
          have HB3 := Lib.hid ((HB2.out.alloc (.cells #[.int .i64 r.cl, .int .i64 r.tm, .int .i64 r.kd, .int .i64 r.ky, .int .i64 r.vl, .int .i64 r.sg] 69)).grown hg3 (fun he => own_blk_lt HO2.out (Nat.lt_succ_self _) he.symm))
          have hb3 := ((HBl2.out.alloc HBl2.out.size (.cells #[.int .i64 r.cl, .int .i64 r.tm, .int .i64 r.kd, .int .i64 r.ky, .int .i64 r.vl, .int .i64 r.sg] 69)).grown hg3 (by have := HBl2.out.size; simp; omega) (fun k hk => by have := (HO2.out.lt k hk).1; omega))
          clear ho3 hg3 de0 de1 de2 de3 de4 de5
          go_wp2
          go_step3
          go_wp2
          exact ⟨⟨L2, k0, n, done ++ [r], r, ⟨_, _, _, _, _, _, _, _, _, _, _, _, _, _, _, _, _, _, _, _, _, _, _, _, _, _, _, _, _, _, _, rfl⟩, hb3, hk0, HB3.out, HO3.out, Or.inr (Or.inr ⟨rfl, n, rfl, by simp; omega, HF.out⟩)⟩, by simp [intOf]; omega⟩
        · have HF : Hid (tkBatch zs i = none) := HR.out.trans (restOf_none h1)
          obtain ⟨w2, hw2⟩ : ∃ w2, w1.setCells w.heap.size 0 [.int .i64 0, .int .i64 0, .int .i64 0, .int .i64 0, .int .i64 0, .int .i64 0] = w2 := ⟨_, rfl⟩
          have hblk2 : Blk w2 w.heap.size 69 #[.int .i64 0, .int .i64 0, .int .i64 0, .int .i64 0, .int .i64 0, .int .i64 0] := by rw [← hw2]; exact blk_six hblk1 _ _ _ _ _ _
          have HBl2 := Lib.hid (show Below w.heap.size w w2 by rw [← hw2]; exact below_six hb2 _ _ _ _ _ _)
          have HO2 := Lib.hid (show w2.ownsRow (w.heap.size + 1) 69 6 L done.length (reqCells done) by rw [← hw2]; exact own_six HO1.out (Nat.lt_succ_self _) _ _ _ _ _ _)
          have HB2 := Lib.hid hblk2
          have HW2 := Lib.hid hw2
          have HTh := Lib.hid (there_six hblk1)
          clear h1 hw2 hblk2 hblk1
          go_wp2_with (refine wpList_store_mid rfl 69 (.tmp 8) (.tmp 26) rfl w.heap.size 0 #[.int .i64 0, .int .i64 0, .int .i64 0, .int .i64 0, .int .i64 0, .int .i64 0] rfl rfl HTh.out req_size (one_six _ _ _ _ _ _) ?_; rw [HW2.out])
          go_step3
          go_wp2
          exact ⟨L, 0, _, done, ⟨0, 0, 0, 0, 0, 0⟩, ⟨_, _, _, _, _, _, _, _, _, _, _, _, _, _, _, _, _, _, _, _, _, _, _, _, _, _, _, _, _, _, _, rfl⟩, HBl2.out, Nat.zero_le _, HB2.out, HO2.out, Or.inl ⟨rfl, HF.out⟩⟩
  · intro again
    have HAg := Lib.hid again
    clear again
    go_wp2_with fail
    refine (HL.out _ _ (HH.out.below ((Below.refl _ w).alloc (Nat.le_refl _) _) (Nat.le_refl _))).mono ?_
    have HBk := Lib.hid (Blk.new w 69 #[.int .i64 0, .int .i64 0, .int .i64 0, .int .i64 0, .int .i64 0, .int .i64 0])
    have HBl := Lib.hid ((Below.refl w.heap.size w).alloc (Nat.le_refl _) (.cells #[.int .i64 0, .int .i64 0, .int .i64 0, .int .i64 0, .int .i64 0, .int .i64 0] 69))
    rintro e w1 ⟨rfl, ⟨n, k, h1, hn, hk, rfl⟩ | ⟨h1, rfl⟩⟩
    · have HF : Hid (tkBatch zs i = restOf (tkReq zs) [] n k) := list_rest h1
      clear h1
      go_wp2
      go_step3
      rename_i hK
      refine hK _ _ (HAg.out 2 _ _ _ rfl ⟨_, k, n, [], ⟨0, 0, 0, 0, 0, 0⟩, ⟨_, _, _, _, _, _, _, _, _, _, _, _, _, _, _, _, _, _, _, _, _, _, _, _, _, _, _, _, _, _, _, rfl⟩, HBl.out, hk, HBk.out, World.ownsRow_nil _ _ _ _, Or.inr (Or.inr ⟨rfl, n, rfl, by simpa using hn, HF.out⟩)⟩)
    · have HF : Hid (tkBatch zs i = none) := by simp [Hid, tkBatch, tkList, h1]
      clear h1
      go_wp2
      go_step3
      go_wp2
      exact ⟨_, 0, _, [], ⟨0, 0, 0, 0, 0, 0⟩, ⟨_, _, _, _, _, _, _, _, _, _, _, _, _, _, _, _, _, _, _, _, _, _, _, _, _, _, _, _, _, _, _, rfl⟩, HBl.out, Nat.zero_le _, HBk.out, World.ownsRow_nil _ _ _ _, Or.inl ⟨rfl, HF.out⟩⟩
end Go.Proofs.YtbebfgfpdcdcoaaGreat
