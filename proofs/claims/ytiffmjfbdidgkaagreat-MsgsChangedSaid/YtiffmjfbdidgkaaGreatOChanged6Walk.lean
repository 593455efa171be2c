/- The walk of MsgsChanged. -/
import Derived.Test.YtiffmjfbdidgkaaGreatOTwoVotes
import Derived.Test.YtiffmjfbdidgkaaGreatOS9
import Derived.Test.YtiffmjfbdidgkaaGreatOS7
import Derived.Test.YtiffmjfbdidgkaaGreatOS0

namespace Go.Proofs.YtiffmjfbdidgkaaGreat
open Go.RowKit Go.Sort
set_option linter.unusedSimpArgs false

theorem vset_sg : ∀ (V : List Vt) (i : Nat) (v : Vt) (u : Int), V[i]? = some v → voteCells (V.set i ⟨v.nd, u⟩) = (voteCells V).set (i * 2 + 1) (.int .i64 u)
  | x :: V, 0, v, u, h => by cases h; rfl
  | x :: V, i + 1, v, u, h => by
    have ih := vset_sg V i v u h
    show (Value.int .i64 x.nd) :: (.int .i64 x.sg) :: voteCells (V.set i ⟨v.nd, u⟩) = _
    rw [ih, show (i + 1) * 2 + 1 = (i * 2 + 1) + 1 + 1 by omega]
    rfl
theorem vset_nd : ∀ (V : List Vt) (i : Nat) (v : Vt) (u : Int), V[i]? = some v → voteCells (V.set i ⟨u, v.sg⟩) = (voteCells V).set (i * 2) (.int .i64 u)
  | x :: V, 0, v, u, h => by cases h; rfl
  | x :: V, i + 1, v, u, h => by
    have ih := vset_nd V i v u h
    show (Value.int .i64 x.nd) :: (.int .i64 x.sg) :: voteCells (V.set i ⟨u, v.sg⟩) = _
    rw [ih, show (i + 1) * 2 = (i * 2) + 1 + 1 by omega]
    rfl
/-- The votes, the notary, the law's own variables, once the votes are made. -/
structure Cg (w : World) (g p nb bm rb : Nat) (vw : Int) (L : List Deed) (V : List Vt) (A : Option Addr) (c B : Nat) (wr : World) : Prop where
  vb : Blk wr g 3 #[.int .i64 vw]
  pb : Blk wr p 26 #[.pointer (some ⟨nb, 0, none⟩), .pointer (some ⟨rb, 0, none⟩)]
  nt : Nt wr nb bm L
  row : wr.ownsRow B 39 2 (.slice A V.length c) V.length (voteCells V)
  low : Below w.heap.size w wr
  far : g < B ∧ p < B ∧ nb < B ∧ bm < B
  bs : w.heap.size ≤ B
section
variable {w wr w2 : World} {g p nb bm rb c B : Nat} {vw : Int} {L : List Deed} {V : List Vt} {A : Option Addr}
theorem Cg.below (h : Cg w g p nb bm rb vw L V A c B wr) (hb : Below wr.heap.size wr w2) : Cg w g p nb bm rb vw L V A c B w2 :=
  ⟨h.vb.below hb h.vb.lt, h.pb.below hb h.pb.lt, h.nt.below hb, below_own h.row hb (Nat.le_refl _), h.low.trans (hb.mono h.low.size), h.far, h.bs⟩
/-- Asked of whatever view. -/
theorem Cg.asks (h : Cg w g p nb bm rb vw L V A c B wr) (hl : V.length ≤ 1000000) (vw' f : Int) :
    Calls Tryz.prog 8 #[.int .i64 vw', .slice A V.length c, .int .i64 f, .pointer (some ⟨nb, 0, none⟩)] wr fun e w' => e = .returned (.bool (changedS vw' f L V)) ∧ Cg w g p nb bm rb vw L V A c B w' :=
  (mchanged_any vw' f (has_rows h.row) hl h.nt).mono fun _ _ ⟨he, hb⟩ => ⟨he, h.below hb⟩
theorem Cg.put {v2 : Value} {d : Vt} (h : Cg w g p nb bm rb vw L V A c B wr) (hg : wr.grownBy w2 (Value.slice A V.length c).ownBlock)
    (ho : w2.ownsRow B 39 2 v2 (V.length + 1) (voteCells V ++ [.int .i64 d.nd, .int .i64 d.sg])) : ∃ A2 c2, v2 = .slice A2 (V ++ [d]).length c2 ∧ Cg w g p nb bm rb vw L (V ++ [d]) A2 c2 B w2 := by
  have hlt : ∀ k, (Value.slice A V.length c).ownBlock = some k → B ≤ k := fun k e => (h.row.lt k e).1
  have ht : Turn (fun k => (Value.slice A V.length c).ownBlock = some k) wr w2 := Turn.grown (Turn.refl _ wr) hg (fun k hk _ => hk)
  have hf := h.far
  have hbs := h.bs
  obtain ⟨A2, c2, rfl, _, _⟩ := own_slice ho
  have hl : (V ++ [d]).length = V.length + 1 := by simp
  refine ⟨A2, c2, by rw [hl], ht.blk h.vb (fun e => by have := hlt _ e; omega), ht.blk h.pb (fun e => by have := hlt _ e; omega), h.nt.kept ht (fun e => by have := hlt _ e; omega) (fun e => by have := hlt _ e; omega), ?_, h.low.trans (ht.below h.low.size (fun k hk e => by have := hlt k e; omega)), h.far, h.bs⟩
  rw [hl, show voteCells (V ++ [d]) = voteCells V ++ [.int .i64 d.nd, .int .i64 d.sg] by simp [voteCells, Vt.cells]]
  exact ho
/-- One cell of the row is stored anew. -/
theorem Cg.cell {ad : Addr} {V2 : List Vt} (h : Cg w g p nb bm rb vw L V (some ad) c B wr) {o : Nat} {u : Value} (ho : o < V.length * 2) (hl : V2.length = V.length) (hc : voteCells V2 = (voteCells V).set o u) :
    ad = ⟨ad.block, 0, none⟩ ∧ wr.frozen? ⟨ad.block, o, none⟩ = false ∧ Cg w g p nb bm rb vw L V2 (some ad) c B (wr.setCell ⟨ad.block, o, none⟩ u) := by
  obtain ⟨gr, cap, hv, hB, hlt⟩ := h.row.form (by omega)
  injection hv with hv
  injection hv with hv
  subst hv
  have hth := own_there h.row (o := o) (k := 1) (by omega) 0 (by omega)
  have hrow := own_cells (vs := [u]) h.row (o := o) (by simp; omega)
  have ht : Turn (fun k => k = gr) wr (wr.setCell ⟨gr, o, none⟩ u) := (Turn.refl _ wr).set_ _ _ rfl
  have hf := h.far
  have hs : (voteCells V2) = (voteCells V).take o ++ [u] ++ (voteCells V).drop (o + 1) := by
    have hlen : (voteCells V).length = V.length * 2 := h.row.1
    rw [hc, List.set_eq_take_append_cons_drop, if_pos (by omega)]
    simp
  refine ⟨rfl, hth.2, ht.blk h.vb (by omega), ht.blk h.pb (by omega), h.nt.kept ht (by omega) (by omega), ?_, h.low.trans (ht.below h.low.size (fun k hk e => by have := h.bs; omega)), h.far, h.bs⟩
  rw [hl, hs]
  exact hrow
end
/-- Several ways that end in one goal: proved once, behind them. -/
theorem one_end {R G : Prop} (k : G → R) (h : G) : R := k h
set_option maxHeartbeats 1000000 in
/-- The closure: a node's message to leave the view. -/
theorem chgclo_any {w : World} {g : Nat} {vw : Int} (hg : w.cell? ⟨g, 0, none⟩ = some (.int .i64 vw)) (nd : Int) :
    Calls Tryz.prog 7 #[.int .i64 nd, .pointer (some ⟨g, 0, none⟩)] w fun e w2 => e = .returned (.agg #[.int .i64 6, .int .i64 nd, .int .i64 vw, .int .i64 0, .int .i64 0, .int .i64 0, .slice none 0 0, .slice none 0 0, .slice none 0 0, .slice none 0 0]) ∧ Below w.heap.size w w2 := by
  have hg2 : ∀ o, (w.alloc o).cell? ⟨g, 0, none⟩ = some (.int .i64 vw) := fun o => (((Below.refl w.heap.size w).alloc (Nat.le_refl _) o).cell (block_lt hg)).trans hg
  have HG := Lib.hid hg2
  clear hg
  go_enter Tryz.func7, Tryz.ntmps7
  go_wp2_with fail
  have hb := (Below.refl w.heap.size w).alloc (Nat.le_refl _) (.cells #[.int .i64 6, .int .i64 nd, .int .i64 vw, .int .i64 0, .int .i64 0, .int .i64 0, .slice none 0 0, .slice none 0 0, .slice none 0 0, .slice none 0 0] 35)
  have HB := Lib.hid hb
  have hk := Blk.new w 35 #[.int .i64 6, .int .i64 nd, .int .i64 vw, .int .i64 0, .int .i64 0, .int .i64 0, .slice none 0 0, .slice none 0 0, .slice none 0 0, .slice none 0 0]
  have d0 := hk.cell 0
  have d1 := hk.cell 1
  have d2 := hk.cell 2
  have d3 := hk.cell 3
  have d4 := hk.cell 4
  have d5 := hk.cell 5
  have d6 := hk.cell 6
  have d7 := hk.cell 7
  have d8 := hk.cell 8
  have d9 := hk.cell 9
  simp only [List.getElem?_toArray, List.getElem?_cons_zero, List.getElem?_cons_succ] at d0 d1 d2 d3 d4 d5 d6 d7 d8 d9
  obtain ⟨w1, hw1⟩ : ∃ w1, w.alloc (.cells #[.int .i64 6, .int .i64 nd, .int .i64 vw, .int .i64 0, .int .i64 0, .int .i64 0, .slice none 0 0, .slice none 0 0, .slice none 0 0, .slice none 0 0] 35) = w1 := ⟨_, rfl⟩
  rw [hw1] at HB d0 d1 d2 d3 d4 d5 d6 d7 d8 d9 ⊢
  clear hw1 hb hg2 HG hk
  refine bodyPost_ret (v := .agg #[.int .i64 6, .int .i64 nd, .int .i64 vw, .int .i64 0, .int .i64 0, .int .i64 0, .slice none 0 0, .slice none 0 0, .slice none 0 0, .slice none 0 0]) ?_ ?_ ?_
  case refine_2 => rfl
  case refine_3 => exact ⟨rfl, HB.out⟩
  simp [results, Tryz.results7, go_sem, d0, d1, d2, d3, d4, d5, d6, d7, d8, d9]
set_option maxHeartbeats 8000000 in
set_option maxRecDepth 100000 in
theorem msgsChanged_walk (f0 view0 skip at0 turn : Int) (w : World) (h0 : fit f0) (h1 : fit view0) (h2 : fit skip) (h3 : fit at0) (h4 : fit turn) :
    Calls Tryz.prog 3 #[.int .i64 f0, .int .i64 view0, .int .i64 skip, .int .i64 at0, .int .i64 turn] w fun e w' => e = .returned (.bool true) ∧ Below w.heap.size w w' := by
  obtain ⟨m, hm, hm4⟩ : ∃ m : Nat, f0 % 4 = (m : Int) ∧ m < 4 := ⟨(f0 % 4).toNat, by have := Int.emod_nonneg f0 (show (4 : Int) ≠ 0 by omega); omega, by have := Int.emod_nonneg f0 (show (4 : Int) ≠ 0 by omega); have := Int.emod_lt_of_pos f0 (show (0 : Int) < 4 by omega); omega⟩
  obtain ⟨vw, hvw⟩ : ∃ vw, view0 % 12 = vw := ⟨_, rfl⟩
  have bvw : 0 ≤ vw ∧ vw < 12 := by have := Int.emod_nonneg view0 (show (12 : Int) ≠ 0 by omega); have := Int.emod_lt_of_pos view0 (show (0 : Int) < 12 by omega); omega
  have KF := Lib.hid (fun w => within_any f0 4 (by omega) (by omega) (wf_i64 h0).1 (wf_i64 h0).2 w)
  have KV := Lib.hid (fun w => within_any view0 12 (by omega) (by omega) (wf_i64 h1).1 (wf_i64 h1).2 w)
  rw [hm] at KF
  rw [hvw] at KV
  have KF := Lib.hid (fun w => (KF.out w).mono (R' := fun e w' => e = .returned (.int .i64 (m : Int)) ∧ w' = w) (fun e w' he => ⟨he.1, he.2.symm⟩))
  have KV := Lib.hid (fun w => (KV.out w).mono (R' := fun e w' => e = .returned (.int .i64 vw) ∧ w' = w) (fun e w' he => ⟨he.1, he.2.symm⟩))
  have KA := Lib.hid (fun (n : Int) (h1 : 1 ≤ n) (h2 : n ≤ 100) w => within_any at0 n h1 (by omega) (wf_i64 h3).1 (wf_i64 h3).2 w)
  have KT := Lib.hid (fun w => within_any turn 3 (by omega) (by omega) (wf_i64 h4).1 (wf_i64 h4).2 w)
  have HSk := Lib.hid (wf_i64 h2)
  have hmf : ∀ (fn : Fn) (first cap : Array Value) (w : World), (Instr.makeFunc fn first cap).run Tryz.prog w = .ok (.func fn first cap) w := fun _ _ _ _ => rfl
  have HBv := Lib.hid bvw
  have hb0 : Below w.heap.size w (w.alloc (.cells #[.int .i64 view0] 3)) := (Below.refl _ _).alloc (Nat.le_refl _) _
  have HV0 := Lib.hid (Blk.new w 3 #[.int .i64 view0])
  have HB0 := Lib.hid hb0
  obtain ⟨g, hg⟩ : ∃ g, w.heap.size = g := ⟨_, rfl⟩
  obtain ⟨w0, hw0⟩ : ∃ w0, w.alloc (.cells #[.int .i64 view0] 3) = w0 := ⟨_, rfl⟩
  rw [hw0] at HB0 HV0
  rw [hg] at HV0
  have HG := Lib.hid hg
  have HW := Lib.hid hw0
  clear h0 h1 h2 h3 h4 hm hvw bvw hb0 hg hw0
  go_enter Tryz.func3, Tryz.ntmps3
  go_upto_region 1 with fail
  rw [HW.out, HG.out]
  have c0 := HV0.out.cell 0
  have f0_ := HV0.out.frozen 0
  simp only [List.getElem?_toArray, List.getElem?_cons_zero] at c0
  have c0 : w0.drew.cell? ⟨g, 0, none⟩ = some (.int .i64 view0) := c0
  have f0_ : w0.drew.frozen? ⟨g, 0, none⟩ = false := f0_
  apply one_end
  · intro hfin
    refine wpL_region (S := fun w' => w'.cell? ⟨g, 0, none⟩ = some (.int .i64 view0)) (z := 6) (n := 7) (d := #[false, false, false, false, false, false, false]) (by kernel_rfl) (by rfl) (by rfl) (c0) (fun hHeld => ?_)
    refine wpL_take (i := 0) (v := ?_) rfl (by kernel_rfl) (by kernel_rfl) (by kernel_rfl) (by kernel_rfl) (fun _ _ _ h => h) (Or.inl ⟨by rfl, ?_⟩) (by assumption) ?_
    rotate_left
    · (intro w hSw; (try dsimp only at hSw); first | (go_simp; done) | (go_simp; with_reducible rfl))
    try simp only [Act.put, List.setIfInBounds_toArray, List.set_cons_zero, List.set_cons_succ]
    refine wpL_take (i := 3) (v := ?_) rfl (by kernel_rfl) (by kernel_rfl) (by kernel_rfl) (by kernel_rfl) (fun _ _ _ h => h) (Or.inl ⟨by rfl, ?_⟩) (by assumption) ?_
    rotate_left
    · (intro w hSw; (try dsimp only at hSw); first | (go_simp; done) | (go_simp; with_reducible rfl))
    try simp only [Act.put, List.setIfInBounds_toArray, List.set_cons_zero, List.set_cons_succ]
    refine wpL_ready (rs := [1]) (by kernel_rfl) (by simp) ?_
    refine AllL.cons rfl (fun K hK => ?_) AllL.nil
    go_simp
    go_at_call 4
    refine (KF.out _).mono ?_
    rintro e w' ⟨rfl, rfl⟩
    try (go_wp2_with fail)
    refine hK.out _ _ (fun _ => c0) (fun hHeld => ?_)
    clear hK K
    have hHeld := hHeld (by decide)
    try simp only [Act.put, List.setIfInBounds_toArray, List.set_cons_zero, List.set_cons_succ]
    refine wpL_take (i := 2) (v := ?_) rfl (by kernel_rfl) (by kernel_rfl) (by kernel_rfl) (by kernel_rfl) (fun _ _ _ h => h) (Or.inl ⟨by rfl, ?_⟩) (by assumption) ?_
    rotate_left
    · (intro w hSw; (try dsimp only at hSw); first | (go_simp; done) | (go_simp; with_reducible rfl))
    try simp only [Act.put, List.setIfInBounds_toArray, List.set_cons_zero, List.set_cons_succ]
    refine wpL_ready (rs := [4]) (by kernel_rfl) (by simp) ?_
    refine AllL.cons rfl (fun K hK => ?_) AllL.nil
    go_simp
    go_at_call 4
    refine (KV.out _).mono ?_
    rintro e w' ⟨rfl, rfl⟩
    try (go_wp2_with fail)
    refine hK.out _ _ (fun _ => c0) (fun hHeld => ?_)
    clear hK K
    have hHeld := hHeld (by decide)
    try simp only [Act.put, List.setIfInBounds_toArray, List.set_cons_zero, List.set_cons_succ]
    refine wpL_ready (rs := [5]) (by kernel_rfl) (by simp) ?_
    refine AllL.cons rfl (fun K hK => ?_) AllL.nil
    go_simp
    refine hK.out _ _ (fun _ => c0) (fun hHeld => ?_)
    clear hK K
    have hHeld := hHeld (by decide)
    try simp only [Act.put, List.setIfInBounds_toArray, List.set_cons_zero, List.set_cons_succ]
    refine wpL_ready (rs := [6]) (by kernel_rfl) (by simp) ?_
    refine AllL.cons rfl (fun K hK => ?_) AllL.nil
    go_simp
    refine hK.out _ _ (fun _ => absurd rfl ‹_›) (fun hHeld => ?_)
    clear hK K
    try simp only [Act.put, List.setIfInBounds_toArray, List.set_cons_zero, List.set_cons_succ]
    refine wpL_done (by kernel_rfl) ?_ _
    exact hfin
  have HV1 := Lib.hid (show Blk (w0.setCell ⟨g, 0, none⟩ (.int .i64 vw)).drew g 3 #[.int .i64 vw] from (HV0.out.set_ 0 (.int .i64 vw)).drewN 1)
  have HB1 := Lib.hid (show Below w.heap.size w (w0.setCell ⟨g, 0, none⟩ (.int .i64 vw)).drew from HB0.out.trans ((((Turn.refl (fun k => k = g) w0).set_ ⟨g, 0, none⟩ (.int .i64 vw) rfl).drewN 1).below HB0.out.size (fun k hk e => by rw [← HG.out] at e; omega)))
  obtain ⟨w1, hw1⟩ : ∃ w1, (w0.setCell ⟨g, 0, none⟩ (.int .i64 vw)).drew = w1 := ⟨_, rfl⟩
  obtain ⟨f, hf, hf4, hwf⟩ : ∃ f : Nat, 1 ≤ f ∧ f ≤ 4 ∧ IntKind.i64.wrap (1 + (m : Int)) = (f : Int) := ⟨m + 1, by omega, by omega, by rw [IntWalk.i64_in _ ⟨by omega, by omega⟩]; omega⟩
  rw [hw1] at HV1 HB1 ⊢
  rw [hwf]
  clear hwf hm4
  clear hw1 c0 f0_ HV0 HB0 HW
  go_wp2_with fail
  refine (begin_any w1).mono ?_
  rintro e w2 ⟨nb, bm, rb, R, rfl, hT, hB⟩
  have HT := Lib.hid hT
  have HV2 := Lib.hid (HV1.out.below hB HV1.out.lt)
  have HB2 := Lib.hid (HB1.out.trans (hB.mono HB1.out.size))
  have HGl := Lib.hid (show g < w1.heap.size from HV1.out.lt)
  clear hT hB
  go_wp2_with fail
  have hb3 : Below w2.heap.size w2 (w2.alloc (.cells #[.pointer (some ⟨nb, 0, none⟩), .pointer (some ⟨rb, 0, none⟩)] 26)) := (Below.refl _ _).alloc (Nat.le_refl _) _
  have HT3 := Lib.hid (HT.out.below hb3)
  have HV3 := Lib.hid (HV2.out.below hb3 HV2.out.lt)
  have HP3 := Lib.hid (Blk.new w2 26 #[.pointer (some ⟨nb, 0, none⟩), .pointer (some ⟨rb, 0, none⟩)])
  have HB3 := Lib.hid (HB2.out.trans (hb3.mono HB2.out.size))
  have HNs := Lib.hid (show w1.heap.size ≤ nb ∧ w1.heap.size ≤ bm ∧ nb < w2.heap.size ∧ bm < w2.heap.size ∧ ∀ k, R k → w1.heap.size ≤ k ∧ k < w2.heap.size from ⟨HT.out.nbw, HT.out.bmw, HT.out.nt.lt.1, HT.out.nt.lt.2, HT.out.zone⟩)
  obtain ⟨p, hp⟩ : ∃ p, w2.heap.size = p := ⟨_, rfl⟩
  obtain ⟨w3, hw3⟩ : ∃ w3, w2.alloc (.cells #[.pointer (some ⟨nb, 0, none⟩), .pointer (some ⟨rb, 0, none⟩)] 26) = w3 := ⟨_, rfl⟩
  rw [hp] at HP3 HNs
  rw [hw3] at HT3 HV3 HP3 HB3
  rw [hp, hw3]
  clear hb3 hp hw3 HT HV2 HB2 HV1 HB1
  refine (tvotes_any HT3.out (by simp) f ⟨hf, hf4⟩ skip HSk.out #[.pointer (some ⟨g, 0, none⟩)] (fun nd => chgM nd vw) (fun nd => by have : (chgM nd vw).toks.length = 10 := rfl; rw [this]; omega) (fun nd h1 h2 => WalkArith.wf_i64 (by show -9223372036854775808 ≤ nd ∧ nd ≤ 9223372036854775807; omega)) (fun nd w' ht => ?_)).mono ?_
  · have hgc : w'.cell? ⟨g, 0, none⟩ = some (.int .i64 vw) := by
      have hns := HNs.out
      have hgl := HGl.out
      have := (ht.blk HV3.out (fun e => e.elim (fun e => by have := (hns.2.2.2.2 g e).1; omega) (fun e => by omega))).cell 0
      simpa only [List.getElem?_toArray, List.getElem?_cons_zero] using this
    exact (chgclo_any hgc nd).mono fun e w2 ⟨he, hb⟩ => ⟨Ms.mk (chgM nd vw) none 0 none 0 none 0 none 0, he, rfl, ⟨Has.nil _ _ _, Has.nil _ _ _, ⟨[], rfl, Has.nil _ _ _, by simp⟩, ⟨[], rfl, Has.nil _ _ _, by simp⟩⟩, hb⟩
  rintro e w4 ⟨v, R2, rfl, hvo⟩
  obtain ⟨s, hs⟩ : ∃ s, (skip % ((f : Int) + 1)).toNat = s := ⟨_, rfl⟩
  rw [hs] at hvo
  have hl2 := voS_l2 (fun nd => chgM nd vw) f s [] (2 * f + 1) (by simp)
  have hlen := voS_len (fun nd => chgM nd vw) f s [] (2 * f + 1)
  have HM0 := Lib.hid (changed_made (s := s) ⟨hf, hf4⟩ HBv.out)
  have HMv := Lib.hid (fun vw' (hne : vw' ≠ vw) => changed_view (s := s) ⟨hf, hf4⟩ HBv.out hne)
  have HMs := Lib.hid (fun (i : Nat) (hi : i < 2 * f + 1) (v : Vt) hat => changed_seal (s := s) ⟨hf, hf4⟩ HBv.out hi (v := v) hat)
  have HMn := Lib.hid (fun (i : Nat) (hi : i < 2 * f + 1) (v : Vt) hat => changed_node (s := s) ⟨hf, hf4⟩ HBv.out hi (v := v) hat)
  have HMz := Lib.hid (fun (i : Nat) (hi : i < 2 * f + 1) (v : Vt) hat => voS_small (s := s) ⟨hf, hf4⟩ HBv.out hi (v := v) hat (by omega))
  obtain ⟨L, hL⟩ : ∃ L, (voS (fun nd => chgM nd vw) f s [] (2 * f + 1)).2 = L := ⟨_, rfl⟩
  obtain ⟨V, hV⟩ : ∃ V, (voS (fun nd => chgM nd vw) f s [] (2 * f + 1)).1 = V := ⟨_, rfl⟩
  rw [hL, hV] at hvo HM0 HMv HMs HMn
  rw [hV] at hlen HMz
  have HVo := Lib.hid hvo
  have HLn := Lib.hid hlen
  clear hvo hlen hL hV hl2 hs HSk KF KV
  obtain ⟨A, c, rfl, q1, q2⟩ := own_slice HVo.out.own
  have HC := Lib.hid (show Cg w g p nb bm rb vw L V A c (w3.heap.size + 1) w4 from by
    have hn := HNs.out
    have hg := HGl.out
    have hz : ∀ k, (R k ∨ k = bm) → w1.heap.size ≤ k ∧ k < p := fun k hk => hk.elim (fun e => hn.2.2.2.2 k e) (fun e => by omega)
    have hp3 := HP3.out.lt
    have hv3 := HV3.out.lt
    have hB3 := HB3.out.size
    have hwg := HG.out
    refine ⟨HVo.out.turn.blk HV3.out (fun e => by have := hz _ e; omega), HVo.out.turn.blk HP3.out (fun e => by have := hz _ e; omega), HVo.out.tw.nt, HVo.out.own, HB3.out.trans (HVo.out.turn.below hB3 (fun k hk e => by have := hz _ e; omega)), by omega, by omega⟩)
  have HVl := Lib.hid (show V.length ≤ 1000000 by have := HLn.out; omega)
  have hc0 := HC.out.vb.cell 0
  have hc1 := HC.out.pb.cell 0
  simp only [List.getElem?_toArray, List.getElem?_cons_zero] at hc0 hc1
  have hv2 := HBv.out
  have hw1 : IntKind.i64.wrap (vw + 1) = vw + 1 := IntWalk.i64_in _ ⟨by omega, by omega⟩
  have hw2 : IntKind.i64.wrap (vw - 1) = vw - 1 := IntWalk.i64_in _ ⟨by omega, by omega⟩
  have HM1 := Lib.hid (HMv.out (vw + 1) (by omega))
  have HM2 := Lib.hid (HMv.out (vw - 1) (by omega))
  clear q1 q2 HVo HP3 HV3 HT3 HNs HB3 HMv HGl hmf f0_ c0
  go_wp2_with fail
  refine (HC.out.asks HVl.out vw f).mono ?_
  rintro e w5 ⟨rfl, h5⟩
  rw [HM0.out]
  have H5 := Lib.hid h5
  have hc2 := h5.vb.cell 0
  have hc3 := h5.pb.cell 0
  simp only [List.getElem?_toArray, List.getElem?_cons_zero] at hc2 hc3
  clear h5
  go_wp2_with fail
  refine (H5.out.asks HVl.out (vw + 1) f).mono ?_
  rintro e w6 ⟨rfl, h6⟩
  rw [HM1.out]
  have H6 := Lib.hid h6
  have hc4 := h6.vb.cell 0
  have hc5 := h6.pb.cell 0
  simp only [List.getElem?_toArray, List.getElem?_cons_zero] at hc4 hc5
  clear h6 hc0 hc1
  go_wp2_with fail
  refine (H6.out.asks HVl.out (vw - 1) f).mono ?_
  rintro e w7 ⟨rfl, h7⟩
  rw [HM2.out]
  have H7 := Lib.hid h7
  clear h7 hc2 hc3 hc4 hc5
  obtain ⟨i, hi, hin⟩ : ∃ i : Nat, at0 % (V.length : Int) = (i : Int) ∧ i < V.length := by
    have hl := HLn.out
    have h1 := Int.emod_nonneg at0 (show (V.length : Int) ≠ 0 by omega)
    have h2 := Int.emod_lt_of_pos at0 (show (0 : Int) < V.length by omega)
    exact ⟨(at0 % (V.length : Int)).toNat, by omega, by omega⟩
  have KI := Lib.hid (KA.out V.length (by have := HLn.out; omega) (by have := HLn.out; omega))
  rw [hi] at KI
  go_wp2_with fail
  refine (KI.out _).mono ?_
  rintro e w' ⟨rfl, rfl⟩
  obtain ⟨x, hx⟩ : ∃ x, V[i]? = some x := ⟨_, List.getElem?_eq_getElem hin⟩
  have hxs := HMz.out i (by have := HLn.out; omega) x hx
  obtain ⟨ad, hA, _, k0, k1⟩ := (has_rows H7.out.row).vote hin
  rw [show V[i] = x by rw [List.getElem?_eq_getElem hin] at hx; exact Option.some.inj hx] at k0 k1
  subst hA
  obtain ⟨⟨x0, x1⟩, x2, x3⟩ := hxs
  have HX := Lib.hid hx
  have hVl := HVl.out
  have hg7 := H7.out.vb.cell 0
  have hp7 := H7.out.pb.cell 0
  simp only [List.getElem?_toArray, List.getElem?_cons_zero] at hg7 hp7
  rcases (by omega : turn % 3 = 0 ∨ turn % 3 = 1 ∨ turn % 3 = 2) with ht | ht | ht
  · rw [ht] at KT
    have hws : IntKind.i64.wrap (x.sg + 1) = x.sg + 1 := IntWalk.i64_in _ ⟨by omega, by omega⟩
    obtain ⟨ha, hfz, hcg⟩ := H7.out.cell (V2 := V.set i ⟨x.nd, x.sg + 1⟩) (o := i * 2 + 1) (u := .int .i64 (x.sg + 1)) (by omega) (by simp) (vset_sg V i x _ hx)
    have hao : (ad.add (i * 2)).block = ad.block ∧ (ad.add (i * 2)).off = i * 2 := by rw [ha, Addr.add_mid]; simp
    rw [show (⟨ad.block, i * 2 + 1, none⟩ : Addr) = ⟨(ad.add (i * 2)).block, (ad.add (i * 2)).off + 1, none⟩ by rw [hao.1, hao.2]] at hfz hcg
    have HCg := Lib.hid hcg
    have e0 := hcg.vb.cell 0
    have e1 := hcg.pb.cell 0
    simp only [List.getElem?_toArray, List.getElem?_cons_zero] at e0 e1
    have HMt := Lib.hid (HMs.out i (by have := HLn.out; omega) x hx)
    clear hcg ha hao ht hx
    go_wp2_with fail
    refine (KT.out _).mono ?_
    rintro e w' ⟨rfl, rfl⟩
    go_wp2_with fail
    have KC := Lib.hid (HCg.out.asks (by simpa using hVl) vw f)
    rw [HMt.out, List.length_set] at KC
    refine KC.out.mono ?_
    rintro e w8 ⟨rfl, h8⟩
    have H8 := Lib.hid h8
    clear h8 KC
    go_wp2_with fail
    refine (wakes6_any _).mono ?_
    rintro e w9 ⟨rfl, hb⟩
    have H9 := Lib.hid (H8.out.below hb)
    clear hb
    go_wp2_with fail
    go_ret
    exact ⟨rfl, H9.out.low⟩
  · rw [ht] at KT
    have hws : IntKind.i64.wrap (x.nd + 1) = x.nd + 1 := IntWalk.i64_in _ ⟨by omega, by omega⟩
    obtain ⟨ha, hfz, hcg⟩ := H7.out.cell (V2 := V.set i ⟨x.nd + 1, x.sg⟩) (o := i * 2) (u := .int .i64 (x.nd + 1)) (by omega) (by simp) (vset_nd V i x _ hx)
    have hao : ad.add (i * 2) = ⟨ad.block, i * 2, none⟩ := by
      conv => lhs; rw [ha, Addr.add_mid, Nat.zero_add]
    rw [← hao] at hfz hcg
    have HCg := Lib.hid hcg
    have e0 := hcg.vb.cell 0
    have e1 := hcg.pb.cell 0
    simp only [List.getElem?_toArray, List.getElem?_cons_zero] at e0 e1
    have HMt := Lib.hid (HMn.out i (by have := HLn.out; omega) x hx)
    clear hcg ha hao ht hx
    go_wp2_with fail
    refine (KT.out _).mono ?_
    rintro e w' ⟨rfl, rfl⟩
    go_wp2_with fail
    have KC := Lib.hid (HCg.out.asks (by simpa using hVl) vw f)
    rw [HMt.out, List.length_set] at KC
    refine KC.out.mono ?_
    rintro e w8 ⟨rfl, h8⟩
    have H8 := Lib.hid h8
    clear h8 KC
    go_wp2_with fail
    refine (wakes6_any _).mono ?_
    rintro e w9 ⟨rfl, hb⟩
    have H9 := Lib.hid (H8.out.below hb)
    clear hb
    go_wp2_with fail
    go_ret
    exact ⟨rfl, H9.out.low⟩
  · rw [ht] at KT
    obtain ⟨i0, hi0, hx0, hx1, hx2⟩ := info_parts info_vote
    have HB := Lib.hid (H7.out.below ((Below.refl _ w7).alloc (Nat.le_refl _) (.cells #[.int .i64 13, .int .i64 1] 39)))
    have HNw := Lib.hid (show Has (w7.alloc (.cells #[.int .i64 13, .int .i64 1] 39)) (w7.heap.size + 1) (some ⟨w7.heap.size, 0, none⟩) [.int .i64 13, .int .i64 1] from Has.fresh w7 #[.int .i64 13, .int .i64 1] 39)
    have HM3 := Lib.hid (show V.length + 1 ≤ maxLen by unfold maxLen; omega)
    have HM4 := Lib.hid (show (V.length + 1) * 16 ≤ 140737488355328 by omega)
    have HM5 := Lib.hid (show w3.heap.size + 1 ≤ (w7.alloc (.cells #[.int .i64 13, .int .i64 1] 39)).heap.size by have := (H7.out.row.lt ad.block rfl); simp; omega)
    have HMt := Lib.hid (changed_more (L := L) (vw := vw) HLn.out ⟨13, 1⟩)
    clear ht hx
    go_wp2_with fail
    refine (KT.out _).mono ?_
    rintro e w' ⟨rfl, rfl⟩
    go_wp2_with (at_builtin; refine wpList_apps rfl _ _ 29 rfl (w3.heap.size + 1) 39 i0 (.agg #[.int .i64 0, .int .i64 0]) 2 16 Tryz.underlying29 hi0 hx0 hx1 hx2 rfl (by decide) _ _ _ rfl HB.out.row _ (some ⟨w7.heap.size, 0, none⟩) 1 1 [.int .i64 13, .int .i64 1] rfl rfl HNw.out (fun h => nomatch h) (by simp [Value.oneCell']) HM3.out HM4.out HM5.out ?_)
    intro v2 w9 ho2 hg2 hl2
    obtain ⟨A2, c2, rfl, hcg⟩ := HB.out.put (d := ⟨13, 1⟩) hg2 ho2
    have HCg := Lib.hid hcg
    have e0 := hcg.vb.cell 0
    have e1 := hcg.pb.cell 0
    simp only [List.getElem?_toArray, List.getElem?_cons_zero] at e0 e1
    have KC := Lib.hid (hcg.asks (by have := HLn.out; simp; omega) vw f)
    rw [HMt.out] at KC
    obtain ⟨n2, hn2⟩ : ∃ n2, (V ++ [⟨13, 1⟩] : List Vt).length = n2 := ⟨_, rfl⟩
    rw [hn2] at KC
    rw [hn2]
    clear hcg ho2 hg2 hl2 hn2
    go_wp2_with fail
    refine KC.out.mono ?_
    rintro e w8 ⟨rfl, h8⟩
    have H8 := Lib.hid h8
    clear h8 KC
    go_wp2_with fail
    refine (wakes6_any _).mono ?_
    rintro e w9 ⟨rfl, hb⟩
    have H9 := Lib.hid (H8.out.below hb)
    clear hb
    go_wp2_with fail
    go_ret
    exact ⟨rfl, H9.out.low⟩
end Go.Proofs.YtiffmjfbdidgkaaGreat
