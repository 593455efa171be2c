/- Package slot: decided, Prepared, Committed. -/
import Derived.Test.YthlmalangjgioaaSlot3
import Derived.Test.YthlmalangjgioaaReqEq
import Derived.Test.YthlmalangjgioaaRow4
import Derived.Test.YthlmalangjgioaaSameCerts
namespace Go.Proofs.Ythlmalangjgioaa
open Go.RowKit
set_option linter.unusedSimpArgs false

/-- So far: the votes for the batch among the first k. -/
structure Fo (w : World) (L : List Vo) (b : List Rq) (k m : Nat) (u : Value) (wr : World) : Prop where
  own : wr.ownsRow w.heap.size 44 2 u m (voteCells (forL 0 (L.take k) b))
  len : (forL 0 (L.take k) b).length = m
  low : Below w.heap.size w wr
section
variable {w wr wz : World} {L : List Vo} {b : List Rq} {k m : Nat} {u u2 : Value} {x : Vo}
theorem Fo.below (h : Fo w L b k m u wr) (hb : Below wr.heap.size wr wz) : Fo w L b k m u wz := ⟨below_own h.own hb (Nat.le_refl _), h.len, h.low.trans (hb.mono h.low.size)⟩
theorem Fo.no (h : Fo w L b k m u wr) (hx : L[k]? = some x) (hn : ¬ (x.ca = true ∧ x.bt = b)) : Fo w L b (k + 1) m u wr := by
  have e : forL 0 (L.take (k + 1)) b = forL 0 (L.take k) b := by rw [forL_next hx, if_neg hn, List.append_nil]
  exact ⟨by rw [e]; exact h.own, by rw [e]; exact h.len, h.low⟩
theorem Fo.yes (h : Fo w L b k m u wr) (hx : L[k]? = some x) (hn : x.ca = true ∧ x.bt = b) (ho : wz.ownsRow w.heap.size 44 2 u2 (m + 1) (voteCells (forL 0 (L.take k) b) ++ voteCells [⟨(k : Int), x.sg⟩])) (hb : Below w.heap.size w wz) : Fo w L b (k + 1) (m + 1) u2 wz := by
  have e : forL 0 (L.take (k + 1)) b = forL 0 (L.take k) b ++ [⟨(k : Int), x.sg⟩] := by rw [forL_next hx, if_pos hn]
  exact ⟨by rw [e, voteCells_app]; exact ho, by rw [e, List.length_append, h.len]; rfl, hb⟩
theorem Fo.le (h : Fo w L b k m u wr) : m ≤ k := by
  have := forL_le (L.take k) 0 b
  rw [h.len, List.length_take] at this
  omega
end
theorem sameL_self' {α : Type} [DecidableEq α] (l : List α) : sameL l l = true := decide_eq_true rfl
def vtsOf (r : Option (List Vt)) : List Vt := r.getD []
set_option maxHeartbeats 4000000 in
theorem sdec_any {w : World} {Z : Nat → Prop} {sb : Nat} {v1 v2 v : Value} {f : Int} {s : Sx} (h : Sl w Z sb v1 v2 f s) {L : List Vo} {M : List Ve} (hr : Row w Z v L M) (hL : L.length ≤ 13) {A : Option Addr} {n c B q : Nat} {b : List Rq} (hb : Has w B A (reqCells b)) (hn : b.length = n) (hq : (q : Int) = 2 * f + 1) :
    Calls Try.prog 28 #[.pointer (some ⟨sb, 0, none⟩), v, .slice A n c] w fun e w' => ∃ u, e = .returned (.tuple #[u, .bool (decS L b q).isSome]) ∧ w'.ownsRow w.heap.size 44 2 u (vtsOf (decS L b q)).length (voteCells (vtsOf (decS L b q))) ∧ Below w.heap.size w w' := by
  obtain ⟨i0, hi0, hx0, hx1, hx2⟩ := info_parts info_vote
  obtain ⟨cv, M1, M2, k1, _, _, _⟩ := h.mem
  have HQ := Lib.hid (fun (w : World) => (show Calls Try.prog 37 #[.int .i64 f] w fun e w' => e = .returned (.int .i64 (q : Int)) ∧ w = w' from by
    have := bquorum_any f w
    rwa [quorumS_in h.f1 h.f4, ← hq] at this))
  have HK := Lib.hid k1
  have HR := Lib.hid hr
  have HH := Lib.hid hb.tight
  have HN := Lib.hid hn
  have HL := Lib.hid hL
  have q0 : 0 < q := by have := h.f1; omega
  obtain ⟨A0, c0, rfl, -, -⟩ := own_slice hr.own
  obtain ⟨n0, hn0⟩ : ∃ y, L.length = y := ⟨_, rfl⟩
  have HN0 := Lib.hid hn0
  rw [hn0] at hL ⊢
  clear h hr hb hn hq k1 hn0
  go_enter Try.func28, Try.ntmps28
  go_wp2_with fail
  go_loopw [8, 13] (fun y x wr => ∃ (k m : Nat), x = .int .i64 k ∧ k ≤ n0 ∧ m < q ∧ Hid (Fo w L b k m y wr)) (fun _ x _ => n0 - (intOf x).toNat)
  case atStart => exact ⟨0, 0, rfl, Nat.zero_le _, q0, ⟨World.ownsRow_nil _ _ _ _, rfl, Below.refl _ _⟩⟩
  case round =>
    obtain ⟨k, m, rfl, hk, hmq, HF⟩ := hrel
    obtain ⟨Au, cu, rfl, -, -⟩ := own_slice HF.out.own
    by_cases hlt : k < n0
    · have hkL : k < L.length := by rw [HN0.out]; exact hlt
      obtain ⟨g, c', x, hv, hM, hx, d0, d1, d2⟩ := (HR.out.kept (Turn.of_below (Z := fun _ => False) (a := w) (b := wr) HF.out.low) (fun _ _ => id) (fun _ _ _ _ _ => id)).cells hkL
      injection hv with hA0 hn0' hc0
      subst hA0 hc0
      have HX := Lib.hid hx
      have HBt := Lib.hid (HR.out.all x (List.mem_of_getElem? hM))
      have HAl := Lib.hid (fun (a b d : Value) => show Below wr.heap.size wr (wr.alloc (.cells #[a, b, d] 70)) from (Below.refl _ _).alloc (Nat.le_refl _) _)
      cases hca : x.o.ca with
      | false =>
        rw [hca] at d0
        have HF2 := Lib.hid (fun (a b d : Value) => (HF.out.no HX.out (fun e => by rw [hca] at e; cases e.1)).below (HAl.out a b d))
        obtain ⟨nx, hnx⟩ : ∃ y, x.o.bt.length = y := ⟨_, rfl⟩
        rw [hnx] at d2
        clear hM hx hkL hn0' hca hnx HBt HAl
        go_wp2_with fail
        go_roundw
        case rel => exact ⟨k + 1, m, by go_num, by omega, hmq, HF2.out _ _ _⟩
        case measure => simp [intOf]; omega
      | true =>
        rw [hca] at d0
        have HCa := Lib.hid hca
        obtain ⟨sg, hsg⟩ : ∃ y, x.o.sg = y := ⟨_, rfl⟩
        obtain ⟨nx, hnx⟩ : ∃ y, x.o.bt.length = y := ⟨_, rfl⟩
        rw [hsg] at d1
        rw [hnx] at d2
        have HSg := Lib.hid hsg
        have HNx := Lib.hid hnx
        have HB8 := Lib.hid (HAl.out (.bool true) (.int .i64 sg) (.slice x.A nx x.c))
        have HK8 := Lib.hid (Blk.new wr 70 #[.bool true, .int .i64 sg, .slice x.A nx x.c])
        obtain ⟨w8, hw8⟩ : ∃ w8, wr.alloc (.cells #[.bool true, .int .i64 sg, .slice x.A nx x.c] 70) = w8 := ⟨_, rfl⟩
        have HW8 := Lib.hid hw8
        rw [hw8] at HB8 HK8
        have HF8 := Lib.hid (HF.out.below HB8.out)
        have HSame := Lib.hid (show Calls Try.prog 36 #[.slice x.A nx x.c, .slice A n c] w8 fun e w' => e = .returned (.bool (sameL x.o.bt b)) ∧ Below w8.heap.size w8 w' from by
          have hb8 := HBt.out.kept (Turn.of_below (Z := fun _ => False) (a := w) (b := w8) HF8.out.low) (fun _ _ => id)
          have ho := hb8.own
          rw [show x.val = .slice x.A x.o.bt.length x.c from rfl] at ho
          exact rq_same (has_rows ho) HNx.out (by rw [← HNx.out]; exact HBt.out.low) (HH.out.below HF8.out.low (Nat.le_refl _)) HN.out)
        clear hM hx hkL hn0' hca hsg hnx HAl hw8
        have g1 := HK8.out.cell 0
        have g2 := HK8.out.cell 2
        simp only [List.getElem?_toArray, List.getElem?_cons_zero, List.getElem?_cons_succ] at g1 g2
        have HSb := Lib.hid (HK.out.below HF8.out.low HK.out.lt)
        rw [← HW8.out] at HB8 HK8 HF8 HSame g1 g2 HSb
        clear HW8
        obtain ⟨r, hr⟩ : ∃ r, sameL x.o.bt b = r := ⟨_, rfl⟩
        have HR' := Lib.hid hr
        rw [hr] at HSame
        clear hr
        cases r with
        | false =>
          have HF9 := Lib.hid (HF8.out.no HX.out (fun e => by have := HR'.out; rw [e.2, sameL_self'] at this; cases this))
          go_wp2_with fail
          refine HSame.out.mono ?_
          rintro e w9 ⟨rfl, hb9⟩
          have HF10 := Lib.hid (HF9.out.below hb9)
          clear hb9
          go_wp2_with fail
          go_roundw
          case rel => exact ⟨k + 1, m, by go_num, by omega, hmq, HF10⟩
          case measure => simp [intOf]; omega
        | true =>
          have HXb := Lib.hid (And.intro HCa.out (sameL_true.1 HR'.out))
          go_wp2_with fail
          refine HSame.out.mono ?_
          rintro e w9 ⟨rfl, hb9⟩
          have HF9 := Lib.hid (HF8.out.below hb9)
          have hk9 := HK8.out.below hb9 HK8.out.lt
          have hs9 := HSb.out.below hb9 HSb.out.lt
          have e1 := hk9.cell 1
          have s0 := hs9.cell 0
          simp only [List.getElem?_toArray, List.getElem?_cons_zero, List.getElem?_cons_succ] at e1 s0
          have HS9 := Lib.hid hs9
          clear hb9 hk9 hs9 g1 g2 HF8 HSame
          have HBv := Lib.hid (show Below w9.heap.size w9 (w9.alloc (.cells #[.int .i64 (k : Int), .int .i64 sg] 44)) from (Below.refl _ _).alloc (Nat.le_refl _) _)
          have HOv := Lib.hid (below_own HF9.out.own HBv.out (Nat.le_refl _))
          have HNv := Lib.hid (show Has (w9.alloc (.cells #[.int .i64 (k : Int), .int .i64 sg] 44)) (w9.heap.size + 1) (some ⟨w9.heap.size, 0, none⟩) (voteCells [⟨(k : Int), sg⟩]) from Has.fresh w9 #[.int .i64 (k : Int), .int .i64 sg] 44)
          have HOne := Lib.hid (voteCells_one [⟨(k : Int), sg⟩])
          have hme := HF9.out.le
          have HM1 := Lib.hid (show m + 1 ≤ maxLen by unfold maxLen; omega)
          have HM2 := Lib.hid (show (m + 1) * 16 ≤ 140737488355328 by omega)
          have HM3 := Lib.hid (show w.heap.size ≤ (w9.alloc (.cells #[.int .i64 (k : Int), .int .i64 sg] 44)).heap.size from Nat.le_trans HF9.out.low.size HBv.out.size)
          go_wp2_with (at_builtin; refine wpList_apps rfl _ _ 37 rfl w.heap.size 44 i0 _ 2 16 Try.underlying37 hi0 hx0 hx1 hx2 rfl (by decide) _ _ _ rfl HOv.out _ (some ⟨w9.heap.size, 0, none⟩) 1 1 (voteCells [⟨(k : Int), sg⟩]) rfl rfl HNv.out (fun h => nomatch h) HOne.out HM1.out HM2.out HM3.out ?_)
          intro u2 w10 ho hg _
          have HF10 := Lib.hid (HF9.out.yes HX.out HXb.out (by rw [HSg.out]; exact ho) ((HF9.out.low.trans (HBv.out.mono HF9.out.low.size)).grown hg HM3.out (fun k hk => (HOv.out.lt k hk).1)))
          have hs10 : Blk w10 sb _ _ := (HS9.out.alloc _).grown hg (fun e => own_blk_ne HOv.out (HS9.out.alloc _) (by decide) e.symm)
          have s1 := hs10.cell 0
          simp only [List.getElem?_toArray, List.getElem?_cons_zero, List.getElem?_cons_succ] at s1
          obtain ⟨A2, c2, rfl, -, -⟩ := own_slice ho
          clear ho hg hs10 e1 s0 HS9
          by_cases hq1 : m + 1 = q
          · have HE := Lib.hid (show decS L b q = some (forL 0 (L.take (k + 1)) b) from decS_here (by rw [HF10.out.len]; exact hq1))
            have hq2 : ((m : Int) + 1 == (q : Int)) = true := by simp; omega
            go_wp2_with fail
            refine (HQ.out _).mono ?_
            rintro e w11 ⟨rfl, rfl⟩
            go_wp2_with fail
            go_ret2
            refine ⟨.slice A2 q c2, ?_, ?_, HF10.out.low⟩
            · rw [HE.out]; rfl
            · rw [HE.out]
              have := HF10.out.own
              rw [hq1] at this
              show World.ownsRow _ _ _ _ _ (forL 0 (L.take (k + 1)) b).length (voteCells (forL 0 (L.take (k + 1)) b))
              rw [HF10.out.len, hq1]
              exact this
          · have hq2 : ((m : Int) + 1 == (q : Int)) = false := by simp; omega
            go_wp2_with fail
            refine (HQ.out _).mono ?_
            rintro e w11 ⟨rfl, rfl⟩
            go_wp2_with fail
            go_roundw
            case rel => exact ⟨k + 1, m + 1, by go_num, by omega, by omega, HF10⟩
            case measure => simp [intOf]; omega
    · obtain rfl : k = n0 := by omega
      have HE := Lib.hid (show decS L b q = none from decS_end (k := k) (by rw [HF.out.len]; exact hmq) (by rw [HN0.out]; exact Nat.le_refl _))
      go_wp2_with fail
      go_ret2
      refine ⟨.slice none 0 0, ?_, ?_, HF.out.low⟩
      · rw [HE.out]; rfl
      · rw [HE.out]; exact World.ownsRow_nil _ _ _ _
theorem own_base {w : World} {b b' n s : Nat} {e : TypeId} {v : Value} {xs : List Value} (h : w.ownsRow b e s v n xs) (hb : b' ≤ b) : w.ownsRow b' e s v n xs := by
  refine ⟨h.1, ?_⟩
  rcases h.2 with h2 | ⟨a, c, d, e1, e2, e3⟩
  · exact Or.inl h2
  · exact Or.inr ⟨a, c, d, e1, Nat.le_trans hb e2, e3⟩
section
variable {w : World} {Z : Nat → Prop} {sb : Nat} {v1 v2 : Value} {f : Int} {s : Sx}
set_option maxHeartbeats 1000000 in
theorem sprep_any (h : Sl w Z sb v1 v2 f s) {q : Nat} (hq : (q : Int) = 2 * f + 1) :
    Calls Try.prog 15 #[.pointer (some ⟨sb, 0, none⟩)] w fun e w' => ∃ u, e = .returned (.tuple #[u, .bool (s.prep q).isSome]) ∧ w'.ownsRow w.heap.size 44 2 u (vtsOf (s.prep q)).length (voteCells (vtsOf (s.prep q))) ∧ Below w.heap.size w w' := by
  obtain ⟨cv, M1, M2, h1, h2, h3, h4⟩ := h.mem
  cases hc : s.ch with
  | none =>
    have HE := Lib.hid (show s.prep q = none by unfold Sx.prep; rw [hc])
    have c1 := h1.cell 1
    simp only [List.getElem?_toArray, List.getElem?_cons_zero, List.getElem?_cons_succ, hc, Option.isSome_none] at c1
    clear h h1 h2 h3 h4 hc hq
    go_enter Try.func15, Try.ntmps15
    go_wp2_with fail
    go_ret2
    refine ⟨.slice none 0 0, ?_, ?_, Below.refl _ _⟩
    · rw [HE.out]; rfl
    · rw [HE.out]; exact World.ownsRow_nil _ _ _ _
  | some b =>
    have HE := Lib.hid (show s.prep q = decS s.P b q by unfold Sx.prep; rw [hc])
    rw [hc] at h1 h2
    obtain ⟨A, c, rfl, _, hh⟩ := h2.has
    obtain ⟨A1, d1, rfl, -, -⟩ := own_slice h3.own
    have HD := Lib.hid (sdec_any (h.drewN 1) (h3.kept ((Turn.refl (fun _ => False) w).drewN 1) (fun _ _ => id) (fun _ _ _ _ _ => id)) (by have := h.n1; have := h.f4; omega) (c := c) hh.drew rfl hq)
    obtain ⟨n, hn⟩ : ∃ y, ((some b).getD []).length = y := ⟨_, rfl⟩
    obtain ⟨n1, hn1⟩ : ∃ y, s.P.length = y := ⟨_, rfl⟩
    have hD : Calls Try.prog 28 #[.pointer (some ⟨sb, 0, none⟩), .slice A1 n1 d1, .slice A n c] w.drew fun e w' => ∃ u, e = .returned (.tuple #[u, .bool (decS s.P b q).isSome]) ∧ w'.ownsRow w.heap.size 44 2 u (vtsOf (decS s.P b q)).length (voteCells (vtsOf (decS s.P b q))) ∧ Below w.heap.size w w' := by
      rw [← hn, ← hn1]
      exact HD.out.mono fun e w' ⟨u, a1, a2, a3⟩ => ⟨u, a1, a2, Below.trans (⟨rfl, rfl, rfl, Nat.le_refl _, fun _ _ => rfl⟩ : Below w.heap.size w w.drew) a3⟩
    have HD2 := Lib.hid hD
    rw [hn, hn1] at h1
    have HK := Lib.hid h1
    have c1 := h1.cell 1
    simp only [List.getElem?_toArray, List.getElem?_cons_zero, List.getElem?_cons_succ, Option.isSome_some] at c1
    have c2 : w.drew.cell? ⟨sb, 2, none⟩ = some (.slice A n c) := HK.out.cell 2
    have c3 : w.drew.cell? ⟨sb, 3, none⟩ = some (.slice A1 n1 d1) := HK.out.cell 3
    obtain ⟨r, hr⟩ : ∃ y, decS s.P b q = y := ⟨_, rfl⟩
    rw [hr] at HD2 HE
    obtain ⟨ok, hok⟩ : ∃ y, r.isSome = y := ⟨_, rfl⟩
    have HOk := Lib.hid hok
    rw [hok] at HD2
    clear h h1 h2 h3 h4 hc hq hh hn hn1 hr hok HD hD
    go_enter Try.func15, Try.ntmps15
    go_wp2_with fail
    go_region_held3 (fun w' => w'.cell? ⟨sb, 2, none⟩ = some (.slice A n c) ∧ w'.cell? ⟨sb, 3, none⟩ = some (.slice A1 n1 d1)) (first | exact ⟨c2, c3⟩ | exact hq2 | go_keep)
      ((go_at_call 28; refine HD2.out.mono ?_; rintro e w2 ⟨v', rfl, ho, hb⟩; have hbk := HK.out.below hb HK.out.lt; have hq2 : w2.cell? ⟨sb, 2, none⟩ = some (.slice A n c) ∧ w2.cell? ⟨sb, 3, none⟩ = some (.slice A1 n1 d1) := ⟨hbk.cell 2, hbk.cell 3⟩; obtain ⟨A2, d2, rfl, -, -⟩ := own_slice ho))
    have HO := Lib.hid ho
    have HB := Lib.hid hb
    clear ho hb hbk hq2 c1 c2 c3
    go_wp2_with fail
    go_ret2
    exact ⟨_, by rw [HE.out, HOk.out]; rfl, by rw [HE.out]; exact HO.out, HB.out⟩
end
end Go.Proofs.Ythlmalangjgioaa
