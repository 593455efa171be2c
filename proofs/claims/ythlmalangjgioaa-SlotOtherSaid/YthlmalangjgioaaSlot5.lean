/- Package slot: Committed, Clone. -/
import Derived.Test.YthlmalangjgioaaSlot4
namespace Go.Proofs.Ythlmalangjgioaa
open Go.RowKit
set_option linter.unusedSimpArgs false

def batOf (r : Option (List Rq × List Vt)) : List Rq := (r.map Prod.fst).getD []
def votOf (r : Option (List Rq × List Vt)) : List Vt := (r.map Prod.snd).getD []
section
variable {w : World} {Z : Nat → Prop} {sb : Nat} {v1 v2 : Value} {f : Int} {s : Sx}
set_option maxHeartbeats 4000000 in
theorem scom_any (h : Sl w Z sb v1 v2 f s) {q : Nat} (hq : (q : Int) = 2 * f + 1) :
    Calls Try.prog 16 #[.pointer (some ⟨sb, 0, none⟩)] w fun e w' => ∃ u1 u2, e = .returned (.tuple #[u1, u2, .bool (s.com q).isSome]) ∧
      w'.ownsRow w.heap.size 32 6 u1 (batOf (s.com q)).length (reqCells (batOf (s.com q))) ∧ w'.ownsRow w.heap.size 44 2 u2 (votOf (s.com q)).length (voteCells (votOf (s.com q))) ∧ Below w.heap.size w w' := by
  have HSl := Lib.hid h
  obtain ⟨cv, M1, M2, h1, h2, h3, h4⟩ := h.mem
  have HK := Lib.hid h1
  have HR := Lib.hid h4
  have HQ := Lib.hid hq
  have HL13 := Lib.hid (show s.C.length ≤ 13 by have := h.n2; have := h.f4; omega)
  obtain ⟨A0, c0, rfl, -, -⟩ := own_slice h4.own
  obtain ⟨L, hL⟩ : ∃ y, s.C = y := ⟨_, rfl⟩
  have HE := Lib.hid (show s.com q = comS q L L by unfold Sx.com; rw [hL])
  rw [hL] at HR HL13 HK HSl h1
  obtain ⟨n0, hn0⟩ : ∃ y, L.length = y := ⟨_, rfl⟩
  have HN0 := Lib.hid hn0
  rw [hn0] at h1
  have hn13 : n0 ≤ 13 := by rw [← hn0]; exact HL13.out
  have k4 := h1.cell 4
  simp only [List.getElem?_toArray, List.getElem?_cons_zero, List.getElem?_cons_succ] at k4
  clear h h1 h2 h3 h4 hq hL hn0
  go_enter Try.func16, Try.ntmps16
  go_wp2_with fail
  go_loopw [14] (fun x wr => ∃ (k : Nat), x = .int .i64 k ∧ k ≤ n0 ∧ Hid (∀ y ∈ L.take k, decS L y.bt q = none) ∧ Hid (Below w.heap.size w wr)) (fun x _ => n0 - (intOf x).toNat)
  case atStart => exact ⟨0, rfl, Nat.zero_le _, (fun y hy => by simp at hy), Below.refl _ _⟩
  case round =>
    obtain ⟨k, rfl, hk, HNo, HB⟩ := hrel
    by_cases hlt : k < n0
    · have hkL : k < L.length := by rw [HN0.out]; exact hlt
      obtain ⟨g, c', x, hv, hM, hx, d0, d1, d2⟩ := (HR.out.kept (Turn.of_below (Z := fun _ => False) (a := w) (b := wr) HB.out) (fun _ _ => id) (fun _ _ _ _ _ => id)).cells hkL
      injection hv with hA0 hn0' hc0
      subst hA0 hc0
      have HX := Lib.hid hx
      have HBt := Lib.hid (HR.out.all x (List.mem_of_getElem? hM))
      obtain ⟨ca, hca⟩ : ∃ y, x.o.ca = y := ⟨_, rfl⟩
      obtain ⟨sg, hsg⟩ : ∃ y, x.o.sg = y := ⟨_, rfl⟩
      obtain ⟨nx, hnx⟩ : ∃ y, x.o.bt.length = y := ⟨_, rfl⟩
      rw [hca] at d0
      rw [hsg] at d1
      rw [hnx] at d2
      have HNx := Lib.hid hnx
      have HB8 := Lib.hid (show Below wr.heap.size wr (wr.alloc (.cells #[.bool ca, .int .i64 sg, .slice x.A nx x.c] 70)) from (Below.refl _ _).alloc (Nat.le_refl _) _)
      have HK8 := Lib.hid (Blk.new wr 70 #[.bool ca, .int .i64 sg, .slice x.A nx x.c])
      obtain ⟨w8, hw8⟩ : ∃ w8, wr.alloc (.cells #[.bool ca, .int .i64 sg, .slice x.A nx x.c] 70) = w8 := ⟨_, rfl⟩
      have HW8 := Lib.hid hw8
      rw [hw8] at HB8 HK8
      have HBw8 := Lib.hid (HB.out.trans (HB8.out.mono HB.out.size))
      have HSb := Lib.hid (HK.out.below HBw8.out HK.out.lt)
      have HBat8 := Lib.hid (HBt.out.kept (Turn.of_below (Z := fun _ => False) (a := w) (b := w8) HBw8.out) (fun _ _ => id))
      have hD : Calls Try.prog 28 #[.pointer (some ⟨sb, 0, none⟩), .slice (some ⟨g, 0, none⟩) n0 c0, .slice x.A nx x.c] w8.drew fun e w' => ∃ u, e = .returned (.tuple #[u, .bool (decS L x.o.bt q).isSome]) ∧ w'.ownsRow w.heap.size 44 2 u (vtsOf (decS L x.o.bt q)).length (voteCells (vtsOf (decS L x.o.bt q))) ∧ Below w8.heap.size w8 w' := by
        have ho := HBat8.out.own
        rw [show x.val = .slice x.A x.o.bt.length x.c from rfl] at ho
        have := sdec_any ((HSl.out.below HBw8.out).drewN 1) ((HR.out.kept (Turn.of_below (Z := fun _ => False) (a := w) (b := w8) HBw8.out) (fun _ _ => id) (fun _ _ _ _ _ => id)).kept ((Turn.refl (fun _ => False) w8).drewN 1) (fun _ _ => id) (fun _ _ _ _ _ => id)) HL13.out (has_rows ho).drew rfl HQ.out (c := x.c)
        rw [HNx.out, HN0.out] at this
        exact this.mono fun e w' ⟨u, a1, a2, a3⟩ => ⟨u, a1, own_base a2 HBw8.out.size, Below.trans (⟨rfl, rfl, rfl, Nat.le_refl _, fun _ _ => rfl⟩ : Below w8.heap.size w8 w8.drew) a3⟩
      have HD := Lib.hid hD
      obtain ⟨r, hr⟩ : ∃ y, decS L x.o.bt q = y := ⟨_, rfl⟩
      have HDr := Lib.hid hr
      rw [hr] at HD
      clear hM hx hkL hn0' hca hsg hnx hw8 hD hr
      rw [← HW8.out] at HB8 HK8 HBw8 HSb HBat8 HD
      clear HW8
      have g2 := HK8.out.cell 2
      have s4 := HSb.out.cell 4
      have g2' : (wr.alloc (.cells #[.bool ca, .int .i64 sg, .slice x.A nx x.c] 70)).drew.cell? ⟨wr.heap.size, 2, none⟩ = some (.slice x.A nx x.c) := g2
      have s4' : (wr.alloc (.cells #[.bool ca, .int .i64 sg, .slice x.A nx x.c] 70)).drew.cell? ⟨sb, 4, none⟩ = some (.slice (some ⟨g, 0, none⟩) n0 c0) := by rw [HN0.out] at s4; exact s4
      clear g2 s4
      cases r with
      | none =>
        have HNo2 := Lib.hid (show ∀ y ∈ L.take (k + 1), decS L y.bt q = none from fun y hy => by
          rw [List.take_add_one, HX.out] at hy
          rcases List.mem_append.1 hy with hy | hy
          · exact HNo.out y hy
          · obtain rfl : y = x.o := by simpa using hy
            exact HDr.out)
        go_wp2_with fail
        go_region_held3 (fun w' => w'.cell? ⟨wr.heap.size, 2, none⟩ = some (.slice x.A nx x.c) ∧ w'.cell? ⟨sb, 4, none⟩ = some (.slice (some ⟨g, 0, none⟩) n0 c0)) (first | exact ⟨g2', s4'⟩ | exact hq2 | go_keep)
          ((go_at_call 28; refine HD.out.mono ?_; rintro e w2 ⟨v', rfl, ho, hb⟩; have hbk := HK8.out.below hb HK8.out.lt; have hsk := HSb.out.below hb HSb.out.lt; have hq2 : w2.cell? ⟨wr.heap.size, 2, none⟩ = some (.slice x.A nx x.c) ∧ w2.cell? ⟨sb, 4, none⟩ = some (.slice (some ⟨g, 0, none⟩) n0 c0) := ⟨hbk.cell 2, by have := hsk.cell 4; rw [HN0.out] at this; exact this⟩; obtain ⟨A2, d2, rfl, -, -⟩ := own_slice ho))
        have HB2 := Lib.hid (HBw8.out.trans (hb.mono HBw8.out.size))
        clear ho hb hbk hsk hq2 g2' s4'
        go_wp2_with fail
        go_roundw
        case rel => exact ⟨k + 1, by go_num, by omega, HNo2, HB2⟩
        case measure => simp [intOf]; omega
      | some vs =>
        have HCom := Lib.hid (show comS q L L = some (x.o.bt, vs) from comS_take HX.out HNo.out HDr.out)
        go_wp2_with fail
        go_region_held3 (fun w' => w'.cell? ⟨wr.heap.size, 2, none⟩ = some (.slice x.A nx x.c) ∧ w'.cell? ⟨sb, 4, none⟩ = some (.slice (some ⟨g, 0, none⟩) n0 c0)) (first | exact ⟨g2', s4'⟩ | exact hq2 | go_keep)
          ((go_at_call 28; refine HD.out.mono ?_; rintro e w2 ⟨v', rfl, ho, hb⟩; have hbk := HK8.out.below hb HK8.out.lt; have hsk := HSb.out.below hb HSb.out.lt; have hq2 : w2.cell? ⟨wr.heap.size, 2, none⟩ = some (.slice x.A nx x.c) ∧ w2.cell? ⟨sb, 4, none⟩ = some (.slice (some ⟨g, 0, none⟩) n0 c0) := ⟨hbk.cell 2, by have := hsk.cell 4; rw [HN0.out] at this; exact this⟩; obtain ⟨A2, d2, rfl, -, -⟩ := own_slice ho))
        have hq3 := hq2.1
        have HO := Lib.hid ho
        have HB2 := Lib.hid (HBw8.out.trans (hb.mono HBw8.out.size))
        have HBat2 := Lib.hid (HBat8.out.kept (Turn.of_below (Z := fun _ => False) hb) (fun _ _ => id))
        have HCl := Lib.hid (show Calls Try.prog 26 #[.slice x.A nx x.c] w2 fun e w' => ∃ v, e = .returned v ∧ w'.ownsRow w2.heap.size 32 6 v nx (reqCells x.o.bt) ∧ Below w2.heap.size w2 w' from by
          have ho := HBat2.out.own
          rw [show x.val = .slice x.A x.o.bt.length x.c from rfl] at ho
          exact mq_clone (has_rows ho) HNx.out (by rw [← HNx.out]; exact HBat2.out.low))
        clear ho hb hbk hsk hq2 g2' s4'
        go_wp2_with fail
        refine HCl.out.mono ?_
        rintro e w3 ⟨u, rfl, hou, hb3⟩
        obtain ⟨A3, d3, rfl, -, -⟩ := own_slice hou
        have HOu := Lib.hid (own_base hou HB2.out.size)
        have HO3 := Lib.hid (below_own HO.out hb3 (Nat.le_refl _))
        have HB3 := Lib.hid (HB2.out.trans (hb3.mono HB2.out.size))
        clear hou hb3 hq3
        go_wp2_with fail
        go_ret3
        refine ⟨.slice A3 nx d3, .slice A2 (vtsOf (some vs)).length d2, ?_, ?_, ?_, HB3.out⟩
        · rw [HE.out, HCom.out]; rfl
        · rw [HE.out, HCom.out]
          show World.ownsRow _ _ _ _ _ x.o.bt.length (reqCells x.o.bt)
          rw [HNx.out]
          exact HOu.out
        · rw [HE.out, HCom.out]; exact HO3.out
    · obtain rfl : k = n0 := by omega
      have HCom := Lib.hid (show comS q L L = none from comS_end HNo.out (by rw [HN0.out]; exact Nat.le_refl _))
      go_wp2_with fail
      go_ret3
      refine ⟨.slice none 0 0, .slice none 0 0, ?_, ?_, ?_, HB.out⟩
      · rw [HE.out, HCom.out]; rfl
      · rw [HE.out, HCom.out]; exact World.ownsRow_nil _ _ _ _
      · rw [HE.out, HCom.out]; exact World.ownsRow_nil _ _ _ _
set_option maxHeartbeats 400000 in
theorem ve_clone {w : World} {v : Value} {n : Nat} {M : List Ve} (h : w.ownsRow 0 70 3 v n (veCells M)) (hm : n ≤ 16) :
    Calls Try.prog 32 #[v] w fun e w' => ∃ v', e = .returned v' ∧ w'.ownsRow w.heap.size 70 3 v' n (veCells M) ∧ Below w.heap.size w w' := by
  obtain ⟨A, c, rfl, -, -⟩ := own_slice h
  have h1 := has_rows h
  have hl : (veCells M).length = n * 3 := h.1
  cases A with
  | none =>
    have h0 : n = 0 ∧ c = 0 := by
      rcases h.2 with ⟨h2, h3⟩ | ⟨g, cap, cur, hv, _⟩
      · injection h2 with _ _ a
        exact ⟨h3, a⟩
      · injection hv with a
        cases a
    obtain ⟨rfl, rfl⟩ := h0
    have hL : veCells M = [] := List.eq_nil_of_length_eq_zero (by omega)
    rw [hL]
    have hq := fun (w : World) => Lib.run_eql_slice_nil w 64 70 none 0 0 0 0 Try.underlying64
    clear h h1 hl
    go_enter Try.func32, Try.ntmps32
    go_wp2
    go_ret
    exact ⟨_, rfl, World.ownsRow_nil _ _ _ _, Below.refl _ _⟩
  | some ad =>
    have hq := fun (w : World) => Lib.run_eql_slice_nil w 64 70 (some ad) n c 0 0 Try.underlying64
    obtain ⟨i0, hi0, hx0, hx1, hx2⟩ := info_parts info_ve
    have HO := Lib.hid (World.ownsRow_made (e := 70) (size := 3) w #[] 0 (Nat.le_refl _) (by unfold maxLen; omega) (by simp))
    have HB := Lib.hid (show Below w.heap.size w (w.alloc (.cells #[] 70)) from (Below.refl _ _).alloc (Nat.le_refl _) _)
    have HH := Lib.hid (h1.below HB.out (Nat.le_refl _))
    have H8 := Lib.hid (veCells_one M)
    have HLn := Lib.hid hl
    have hm1 := Lib.hid (show 0 + n ≤ maxLen by unfold maxLen; omega)
    have hm2 := Lib.hid (show (0 + n) * 40 ≤ 140737488355328 by omega)
    clear h h1 hl hm
    go_enter Try.func32, Try.ntmps32
    go_wp2_with (at_builtin; refine wpList_apps rfl _ _ 64 rfl w.heap.size 70 i0 _ 3 40 Try.underlying64 hi0 hx0 hx1 hx2 rfl (by decide) _ 0 [] rfl HO.out _ (some ad) n c (veCells M) rfl HLn.out HH.out (fun e => by cases e) H8.out hm1.out hm2.out HB.out.size ?_)
    intro v w1 ho hg _
    have HR := Lib.hid ho
    have HG := Lib.hid (HB.out.grown hg HB.out.size (fun k hk => by cases hk; exact Nat.le_refl _))
    clear ho hg
    go_wp2
    go_ret
    exact ⟨v, rfl, by simpa using HR.out, HG.out⟩
theorem Row.moved {w w' : World} {Z : Nat → Prop} {v v' : Value} {L : List Vo} {M : List Ve} (h : Row w Z v L M) (hb : Below w.heap.size w w') (ho : w'.ownsRow 0 70 3 v' L.length (veCells M)) : Row w' Z v' L M :=
  ⟨h.is, ho, fun x hx => (h.all x hx).kept (Turn.of_below (Z := fun _ => False) hb) (fun _ _ => id)⟩
set_option maxHeartbeats 2000000 in
/-- Clone: another slot in new blocks, with the same batches. -/
theorem sclone_any (h : Sl w Z sb v1 v2 f s) : Calls Try.prog 22 #[.pointer (some ⟨sb, 0, none⟩)] w fun e w' => ∃ db u1 u2, e = .returned (.pointer (some ⟨db, 0, none⟩)) ∧ Sl w' Z db u1 u2 f s ∧ (∀ k, SZ db u1 u2 k → w.heap.size ≤ k) ∧ Below w.heap.size w w' := by
  have HSl := Lib.hid h
  obtain ⟨cv, M1, M2, h1, h2, h3, h4⟩ := h.mem
  have m1 : s.P.length ≤ 16 := by have := h.n1; have := h.f4; omega
  have m2 : s.C.length ≤ 16 := by have := h.n2; have := h.f4; omega
  have HC1 := Lib.hid (fun (w2 : World) (hb : Below w.heap.size w w2) => ve_clone (below_own h3.own hb (Nat.le_refl _)) m1)
  have HC2 := Lib.hid (fun (w2 : World) (hb : Below w.heap.size w w2) => ve_clone (below_own h4.own hb (Nat.le_refl _)) m2)
  have HMem := Lib.hid (And.intro h2 (And.intro h3 h4))
  obtain ⟨A, c, rfl, -, -⟩ := own_slice h2.own
  obtain ⟨A1, d1, rfl, -, -⟩ := own_slice h3.own
  obtain ⟨A2, d2, rfl, -, -⟩ := own_slice h4.own
  obtain ⟨n, hn⟩ : ∃ y, (s.ch.getD []).length = y := ⟨_, rfl⟩
  obtain ⟨n1, hn1⟩ : ∃ y, s.P.length = y := ⟨_, rfl⟩
  obtain ⟨n2, hn2⟩ : ∃ y, s.C.length = y := ⟨_, rfl⟩
  obtain ⟨b0, hb0⟩ : ∃ y, s.ch.isSome = y := ⟨_, rfl⟩
  have HN := Lib.hid (And.intro hn (And.intro hn1 (And.intro hn2 hb0)))
  rw [hn, hn1, hn2, hb0] at h1
  rw [hn1] at HC1
  rw [hn2] at HC2
  have HK := Lib.hid h1
  have HD0 := Lib.hid (show Below w.heap.size w w.drew from ⟨rfl, rfl, rfl, Nat.le_refl _, fun _ _ => rfl⟩)
  have HCells := Lib.hid (fun (w2 : World) (hb : Below w.heap.size w w2) => show w2.cell? ⟨sb, 0, none⟩ = some (.int .i64 f) ∧ w2.cell? ⟨sb, 1, none⟩ = some (.bool b0) ∧ w2.cell? ⟨sb, 2, none⟩ = some (.slice A n c) ∧ w2.cell? ⟨sb, 3, none⟩ = some (.slice A1 n1 d1) ∧ w2.cell? ⟨sb, 4, none⟩ = some (.slice A2 n2 d2) from
    have k := HK.out.below hb HK.out.lt
    ⟨k.cell 0, k.cell 1, k.cell 2, k.cell 3, k.cell 4⟩)
  have hq1 := HCells.out _ HD0.out
  clear h h1 h2 h3 h4 hn hn1 hn2 hb0 m1 m2
  go_enter Try.func22, Try.ntmps22
  go_wp2_with fail
  go_region_held3 (fun w2 => w2.cell? ⟨sb, 0, none⟩ = some (.int .i64 f) ∧ w2.cell? ⟨sb, 1, none⟩ = some (.bool b0) ∧ w2.cell? ⟨sb, 2, none⟩ = some (.slice A n c) ∧ w2.cell? ⟨sb, 3, none⟩ = some (.slice A1 n1 d1) ∧ w2.cell? ⟨sb, 4, none⟩ = some (.slice A2 n2 d2)) (first | exact hq1 | exact hq2 | exact hq3 | go_keep)
    (first
      | (go_at_call 32; with_reducible refine (HC1.out _ HD0.out).mono ?_; rintro e w2 ⟨v', rfl, ho, hb⟩; have hb2 := HD0.out.trans (hb.mono HD0.out.size); have hq2 := HCells.out _ hb2; obtain ⟨A3, d3, rfl, -, -⟩ := own_slice ho)
      | (go_at_call 32; with_reducible refine (HC2.out _ hb2).mono ?_; rintro e w3 ⟨v', rfl, ho3, hb3⟩; have hb4 := hb2.trans (hb3.mono hb2.size); have hq3 := HCells.out _ hb4; obtain ⟨A4, d4, rfl, -, -⟩ := own_slice ho3))
  have HB4 := Lib.hid hb4
  have HO1 := Lib.hid (below_own ho hb3 (Nat.le_refl _))
  have HO2 := Lib.hid ho3
  have HL2 := Lib.hid hb2.size
  have HL3 := Lib.hid (And.intro (ho.lt) (ho3.lt))
  clear ho ho3 hb hb2 hb3 hb4 hq1 hq2 hq3
  go_wp2_with fail
  go_ret
  have hN := HN.out
  have hal : Below w3.heap.size w3 (w3.alloc (.cells #[.int .i64 f, .bool b0, .slice A n c, .slice A3 n1 d3, .slice A4 n2 d4] 66)) := (Below.refl _ _).alloc (Nat.le_refl _) _
  have hall := HB4.out.trans (hal.mono HB4.out.size)
  have hmem := HMem.out
  rw [hN.1] at hmem
  refine ⟨w3.heap.size, .slice A3 n1 d3, .slice A4 n2 d4, rfl, ⟨HSl.out.f1, HSl.out.f4, HSl.out.n1, HSl.out.n2, ?_, .slice A n c, M1, M2, ?_, ?_, hmem.2.1.moved hall ?_, hmem.2.2.moved hall ?_⟩, fun k hk => ?_, hall⟩
  · intro e
    cases hA : (Value.slice A3 n1 d3).ownBlock with
    | none =>
      have h1 := HSl.out.n1
      have h2 := HSl.out.f1
      obtain ⟨g, cap, hv, _⟩ := HO1.out.form (by omega)
      rw [hv] at hA
      cases hA
    | some g =>
      have x1 := (HL3.out.1 g hA).2
      have x2 := (HL3.out.2 g (by rw [← e]; exact hA)).1
      omega
  · rw [hN.2.2.2]
    exact Blk.new w3 _ _
  · have h2 : Bat w Z (.slice A n c) (s.ch.getD []) := by
      have := hmem.1
      exact this
    exact h2.kept (Turn.of_below (Z := fun _ => False) hall) (fun _ _ => id)
  · rw [hN.2.1]
    exact own_to0 (below_own HO1.out hal (Nat.le_refl _))
  · rw [hN.2.2.1]
    exact own_to0 (below_own HO2.out hal (Nat.le_refl _))
  · have := HB4.out.size
    have := HL2.out
    rcases hk with hk | hk | hk
    · omega
    · have := (HL3.out.1 k hk).1
      have h0 : w.drew.heap.size = w.heap.size := rfl
      omega
    · have := (HL3.out.2 k hk).1
      omega
end
end Go.Proofs.Ythlmalangjgioaa
