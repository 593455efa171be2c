/- The contract of msgs.Open, where Form's is known. -/
import Derived.Test.YtiffmjfbdidgkaaGreatOMsgParse
import Derived.Test.YtiffmjfbdidgkaaGreatOS6
import Derived.Test.YtiffmjfbdidgkaaGreatOS1
import Derived.Test.YtiffmjfbdidgkaaGreatOS0
namespace Go.Proofs.YtiffmjfbdidgkaaGreat
open Go.RowKit Go.Sort

/-- What an envelope opens as: a message and its seal. -/
def openS (F : Mg → Bool) (zs : List Int) (l : List Deed) : Option (Mg × Int) :=
  if zs.length ≤ 65536 then (match tkNum zs 0 with
    | some (k, i) => (match parseM (zs.drop i.toNat) with
      | some m => if F m && checkS l (deedM m (zs.drop i.toNat)) k then some (m, k) else none
      | none => none)
    | none => none) else none
/-- What Open does and answers. -/
def OpenPost (o : Option (Mg × Int)) (w : World) (e : Ending) (w' : World) : Prop :=
  Below w.heap.size w w' ∧ ((∃ (x : Ms) (k : Int), o = some (x.m, k) ∧ e = .returned (.tuple #[.agg #[.int .i64 x.m.kd, .int .i64 x.m.fr, .int .i64 x.m.vw, .int .i64 x.m.ins, .int .i64 x.m.sq, .int .i64 x.m.rs, .slice x.A1 x.m.bt.length x.c1, .slice x.A2 x.m.vs.length x.c2, .slice x.A3 x.m.cs.length x.c3, .slice x.A4 x.m.ps.length x.c4], .int .i64 k, .int .i64 0]) ∧ x.Own w' w.heap.size) ∨
    (o = none ∧ e = .returned (.tuple #[.agg #[.int .i64 0, .int .i64 0, .int .i64 0, .int .i64 0, .int .i64 0, .int .i64 0, .slice none 0 0, .slice none 0 0, .slice none 0 0, .slice none 0 0], .int .i64 0, .int .i64 2])))
theorem parse_from {zs : List Int} (hz : ∀ z ∈ zs, 0 ≤ z ∧ z ≤ 255) {m : Mg} (h : parseM zs = some m) : fit m.fr := by
  have hb := (capped_len (body_parse hz h).1).2
  have hc : ∃ ns, codes m.toks = some ns := by
    unfold bytesOf at hb
    cases hq : codes m.toks with
    | none => rw [hq] at hb; cases hb
    | some ns => exact ⟨ns, rfl⟩
  obtain ⟨ns, hc⟩ := hc
  simp only [Mg.toks, Mg.head, List.cons_append, codes_cons] at hc
  obtain ⟨n1, _, _, ⟨n2, _, h2, _⟩, _⟩ := hc
  obtain ⟨e, h3⟩ := code_num.1 h2
  rw [e]
  exact num_small (by omega) (by omega)
theorem Hold.fresh {w w1 : World} (hb : Below w.heap.size w w1) {a0 a1 a2 a3 a4 a5 a6 a7 a8 a9 : Value} (hblk : Blk w1 w.heap.size 35 #[a0, a1, a2, a3, a4, a5, a6, a7, a8, a9]) {x : Ms} (ho : x.Own w1 (w.heap.size + 1)) :
    Hold w (w1.setCells w.heap.size 0 [.int .i64 x.m.kd, .int .i64 x.m.fr, .int .i64 x.m.vw, .int .i64 x.m.ins, .int .i64 x.m.sq, .int .i64 x.m.rs, .slice x.A1 x.m.bt.length x.c1, .slice x.A2 x.m.vs.length x.c2, .slice x.A3 x.m.cs.length x.c3, .slice x.A4 x.m.ps.length x.c4]) x := ⟨below_ten hb _ _ _ _ _ _ _ _ _ _, blk_ten hblk _ _ _ _ _ _ _ _ _ _, ho.keeps (keeps_ten hblk _ _ _ _ _ _ _ _ _ _)⟩
theorem Hold.below {w w1 w2 : World} {x : Ms} (h : Hold w w1 x) (hb : Below w1.heap.size w1 w2) : Hold w w2 x := ⟨h.low.trans (hb.mono h.low.size), h.blk.below hb h.blk.lt, h.own.below hb⟩
theorem turn_ten (w : World) (g : Nat) (b0 b1 b2 b3 b4 b5 b6 b7 b8 b9 : Value) : Turn (fun k => k = g) w (w.setCells g 0 [b0, b1, b2, b3, b4, b5, b6, b7, b8, b9]) :=
  (((((((((((Turn.refl (fun k => k = g) w).set_ ⟨g, 0, none⟩ b0 rfl).set_ ⟨g, 1, none⟩ b1 rfl).set_ ⟨g, 2, none⟩ b2 rfl).set_ ⟨g, 3, none⟩ b3 rfl).set_ ⟨g, 4, none⟩ b4 rfl).set_ ⟨g, 5, none⟩ b5 rfl).set_ ⟨g, 6, none⟩ b6 rfl).set_ ⟨g, 7, none⟩ b7 rfl).set_ ⟨g, 8, none⟩ b8 rfl).set_ ⟨g, 9, none⟩ b9 rfl)
set_option maxHeartbeats 8000000 in
set_option maxRecDepth 100000 in
theorem open_with {w : World} {nb bm : Nat} {l : List Deed} (hN : Nt w nb bm l) {A : Option Addr} {n c B : Nat} {zs : List Int} (hn : zs.length = n) (hnc : n ≤ c) (hl : n ≤ 9223372036854775806) (hz : ∀ z ∈ zs, 0 ≤ z ∧ z ≤ 255) (hB : B ≤ w.heap.size) (hh : Has w B A (u8s zs)) (f cl : Int) (F : Mg → Bool)
    (HF : ∀ (x : Ms) (k : Int) (i : Nat) w', tkNum zs 0 = some (k, (i : Int)) → parseM (zs.drop i) = some x.m → Below w.heap.size w w' → x.In w' w'.heap.size → Calls Tryz.prog 37 #[.agg #[.int .i64 x.m.kd, .int .i64 x.m.fr, .int .i64 x.m.vw, .int .i64 x.m.ins, .int .i64 x.m.sq, .int .i64 x.m.rs, .slice x.A1 x.m.bt.length x.c1, .slice x.A2 x.m.vs.length x.c2, .slice x.A3 x.m.cs.length x.c3, .slice x.A4 x.m.ps.length x.c4], .int .i64 f, .int .i64 cl] w' fun e w2 => e = .returned (.bool (F x.m)) ∧ Below w'.heap.size w' w2) :
    Calls Tryz.prog 21 #[.slice A n c, .int .i64 f, .int .i64 cl, .pointer (some ⟨nb, 0, none⟩)] w (OpenPost (openS F zs l) w) := by
  have hb0 : Below w.heap.size w (w.alloc (.cells #[.int .i64 0, .int .i64 0, .int .i64 0, .int .i64 0, .int .i64 0, .int .i64 0, .slice none 0 0, .slice none 0 0, .slice none 0 0, .slice none 0 0] 35)) := (Below.refl _ w).alloc (Nat.le_refl _) _
  have HB0 := Lib.hid hb0
  have HBl0 := Lib.hid (Blk.new w 35 #[.int .i64 0, .int .i64 0, .int .i64 0, .int .i64 0, .int .i64 0, .int .i64 0, .slice none 0 0, .slice none 0 0, .slice none 0 0, .slice none 0 0])
  have HH := Lib.hid (hh.below (hb0.mono hB) (Nat.le_refl _))
  have HN := Lib.hid (hN.below hb0)
  have HFo := Lib.hid HF
  have HZ := Lib.hid hz
  have HL := Lib.hid hn
  have hNl := hN.lt
  clear hh hb0 HF hN
  by_cases hlen : 65536 < n
  · have HR := Lib.hid (show openS F zs l = none from if_neg (by rw [hn]; omega))
    clear hn hz HFo
    go_enter Tryz.func21, Tryz.ntmps21
    go_wp2_with fail
    exact bodyPost_ret (v := .tuple #[.agg #[.int .i64 0, .int .i64 0, .int .i64 0, .int .i64 0, .int .i64 0, .int .i64 0, .slice none 0 0, .slice none 0 0, .slice none 0 0, .slice none 0 0], .int .i64 0, .int .i64 2]) (by simp [results, Tryz.results21, go_sem]) rfl ⟨HB0.out, Or.inr ⟨HR.out, rfl⟩⟩
  have hle : n ≤ 65536 := by omega
  have HO := Lib.hid (show openS F zs l = (match tkNum zs 0 with
    | some (k, i) => (match parseM (zs.drop i.toNat) with
      | some m => if F m && checkS l (deedM m (zs.drop i.toNat)) k then some (m, k) else none
      | none => none)
    | none => none) from if_pos (by rw [hn]; exact hle))
  have KT := Lib.hid (fun w hh => take_num A c zs B 0 (by rw [hn]; exact hl) (by omega) hz w hh)
  rw [hn] at KT
  clear hlen hn hz
  go_enter Tryz.func21, Tryz.ntmps21
  go_wp2_with fail
  refine (KT.out _ HH.out).mono ?_
  rintro e w1 ⟨rfl, ⟨k, i, h1, hi, rfl⟩ | ⟨h1, rfl⟩⟩
  case inr =>
    have HR := Lib.hid (show openS F zs l = none by rw [HO.out, h1])
    clear h1 KT
    go_wp2_with fail
    exact bodyPost_ret (v := .tuple #[.agg #[.int .i64 0, .int .i64 0, .int .i64 0, .int .i64 0, .int .i64 0, .int .i64 0, .slice none 0 0, .slice none 0 0, .slice none 0 0, .slice none 0 0], .int .i64 0, .int .i64 2]) (by simp [results, Tryz.results21, go_sem]) rfl ⟨HB0.out, Or.inr ⟨HR.out, rfl⟩⟩
  rw [HL.out] at hi
  have HK := Lib.hid h1
  have HO1 := Lib.hid (show openS F zs l = (match parseM (zs.drop i) with
      | some m => if F m && checkS l (deedM m (zs.drop i)) k then some (m, k) else none
      | none => none) by rw [HO.out, h1]; rfl)
  have R1 := fun (w : World) => bslice_tail (w := w) A (n := n) (c := c) (k := i) hi
  have HT := Lib.hid (bhas_tail HH.out (c := c) (by rw [HL.out]; exact hnc) (k := i) (by rw [HL.out]; exact hi))
  have HTl := Lib.hid (show (zs.drop i).length = n - i by rw [List.length_drop, HL.out])
  have HTz := Lib.hid (show ∀ z ∈ zs.drop i, 0 ≤ z ∧ z ≤ 255 from fun z hz => HZ.out z (List.mem_of_mem_drop hz))
  obtain ⟨ts, hts⟩ : ∃ ts, zs.drop i = ts := ⟨_, rfl⟩
  have HFi := Lib.hid (fun (x : Ms) w' h2 h3 h4 => HFo.out x k i w' h1 h2 h3 h4)
  rw [hts] at HO1 HT HTl HTz HFi
  obtain ⟨T, hT⟩ : ∃ T, btailA A c i = T := ⟨_, rfl⟩
  simp only [hT] at R1
  rw [hT] at HT
  clear h1 KT HO hts hT HFo
  go_wp2_with fail
  refine (parse_any T (c - i) ts B (n - i) HTl.out (by omega) HTz.out _ (Nat.le_trans hB HB0.out.size) HT.out).mono ?_
  rintro e w2 ⟨hb2, hcase⟩
  have HB2 := Lib.hid (HB0.out.trans (hb2.mono HB0.out.size))
  have HBl2 := Lib.hid (HBl0.out.below hb2 HBl0.out.lt)
  have HN2 := Lib.hid (HN.out.below hb2)
  have HT2 := Lib.hid (HT.out.below (hb2.mono (Nat.le_trans hB HB0.out.size)) (Nat.le_refl _))
  have HTh := Lib.hid (there_ten HBl2.out)
  have hs0 : w.heap.size + 1 ≤ (w.alloc (.cells #[.int .i64 0, .int .i64 0, .int .i64 0, .int .i64 0, .int .i64 0, .int .i64 0, .slice none 0 0, .slice none 0 0, .slice none 0 0, .slice none 0 0] 35)).heap.size := by simp
  clear hb2
  rcases hcase with ⟨x, hx, rfl, ho⟩ | ⟨hx, rfl⟩
  case inr =>
    have HR := Lib.hid (show openS F zs l = none by rw [HO1.out, hx])
    clear hx HFi
    have hh1 : Hold w (w2.setCells w.heap.size 0 [.int .i64 0, .int .i64 0, .int .i64 0, .int .i64 0, .int .i64 0, .int .i64 0, .slice none 0 0, .slice none 0 0, .slice none 0 0, .slice none 0 0]) ⟨⟨0, 0, 0, 0, 0, 0, [], [], [], []⟩, none, 0, none, 0, none, 0, none, 0⟩ := Hold.fresh (x := ⟨⟨0, 0, 0, 0, 0, 0, [], [], [], []⟩, none, 0, none, 0, none, 0, none, 0⟩) HB2.out HBl2.out (Ms.Own.nil _ _ _ _ _ _ _ _)
    obtain ⟨w3, hw3⟩ : ∃ w3, w2.setCells w.heap.size 0 [.int .i64 0, .int .i64 0, .int .i64 0, .int .i64 0, .int .i64 0, .int .i64 0, .slice none 0 0, .slice none 0 0, .slice none 0 0, .slice none 0 0] = w3 := ⟨_, rfl⟩
    rw [hw3] at hh1
    have HD := Lib.hid hh1
    have HWz := Lib.hid hw3
    clear hh1 hw3
    go_wp2_with (refine wpList_store_mid rfl 35 (.tmp 8) (.tmp 31) rfl w.heap.size 0 #[.int .i64 0, .int .i64 0, .int .i64 0, .int .i64 0, .int .i64 0, .int .i64 0, .slice none 0 0, .slice none 0 0, .slice none 0 0, .slice none 0 0] rfl rfl HTh.out msg_size (one_ten 0 0 0 0 0 0 none none none none 0 0 0 0 0 0 0 0) ?_; rw [HWz.out])
    refine wp_region_quiet_below (by kernel_rfl) (by kernel_rfl) ?_
    refine wq_out ?_
    iterate 3 (refine wq_do (by kernel_rfl) (fun K hK => ?_); go_simp; refine hK _ ?_; clear hK K)
    iterate 5 (refine wq_skip (by kernel_rfl) ?_)
    iterate 2 (refine wq_do (by kernel_rfl) (fun K hK => ?_); go_simp; refine hK _ ?_; clear hK K)
    iterate 9 (refine wq_skip (by kernel_rfl) ?_)
    refine wq_do (by kernel_rfl) (fun K hK => ?_)
    go_simp
    refine hK _ ?_
    clear hK K
    refine wq_nil ?_
    intro _ hw'
    obtain ⟨⟨dq, osq⟩, hw''⟩ := hw'
    subst hw''
    have hd2 := HD.out.below (below_regrown w3 dq osq)
    obtain ⟨w4, hw4⟩ : ∃ w4, grow (redrawn w3 dq) osq = w4 := ⟨_, rfl⟩
    rw [hw4] at hd2 ⊢
    have HD2 := Lib.hid hd2
    clear hd2 hw4 HTh HWz
    have HThz := Lib.hid (there_ten HD2.out.blk)
    obtain ⟨wz, hwz⟩ : ∃ wz, w4.setCells w.heap.size 0 [.int .i64 0, .int .i64 0, .int .i64 0, .int .i64 0, .int .i64 0, .int .i64 0, .slice none 0 0, .slice none 0 0, .slice none 0 0, .slice none 0 0] = wz := ⟨_, rfl⟩
    have hz2 := HD2.out.zero
    rw [hwz] at hz2
    have HWzz := Lib.hid hwz
    have HBz := Lib.hid hz2.1
    have z0 : wz.cell? ⟨w.heap.size, 0, none⟩ = some (.int .i64 0) := hz2.2.cell 0
    have z1 : wz.cell? ⟨w.heap.size, 1, none⟩ = some (.int .i64 0) := hz2.2.cell 1
    have z2 : wz.cell? ⟨w.heap.size, 2, none⟩ = some (.int .i64 0) := hz2.2.cell 2
    have z3 : wz.cell? ⟨w.heap.size, 3, none⟩ = some (.int .i64 0) := hz2.2.cell 3
    have z4 : wz.cell? ⟨w.heap.size, 4, none⟩ = some (.int .i64 0) := hz2.2.cell 4
    have z5 : wz.cell? ⟨w.heap.size, 5, none⟩ = some (.int .i64 0) := hz2.2.cell 5
    have z6 : wz.cell? ⟨w.heap.size, 6, none⟩ = some (.slice none 0 0) := hz2.2.cell 6
    have z7 : wz.cell? ⟨w.heap.size, 7, none⟩ = some (.slice none 0 0) := hz2.2.cell 7
    have z8 : wz.cell? ⟨w.heap.size, 8, none⟩ = some (.slice none 0 0) := hz2.2.cell 8
    have z9 : wz.cell? ⟨w.heap.size, 9, none⟩ = some (.slice none 0 0) := hz2.2.cell 9
    clear hwz hz2
    go_wp2_with (refine wpList_store_mid rfl 35 (.tmp 8) (.tmp 53) rfl w.heap.size 0 #[.int .i64 0, .int .i64 0, .int .i64 0, .int .i64 0, .int .i64 0, .int .i64 0, .slice none 0 0, .slice none 0 0, .slice none 0 0, .slice none 0 0] rfl rfl HThz.out msg_size (one_ten 0 0 0 0 0 0 none none none none 0 0 0 0 0 0 0 0) ?_; rw [HWzz.out])
    refine bodyPost_ret (v := .tuple #[.agg #[.int .i64 0, .int .i64 0, .int .i64 0, .int .i64 0, .int .i64 0, .int .i64 0, .slice none 0 0, .slice none 0 0, .slice none 0 0, .slice none 0 0], .int .i64 0, .int .i64 2]) ?_ ?_ ?_
    case refine_2 => rfl
    case refine_3 => exact ⟨HBz.out, Or.inr ⟨HR.out, rfl⟩⟩
    simp [results, Tryz.results21, go_sem, z0, z1, z2, z3, z4, z5, z6, z7, z8, z9]
  have HX := Lib.hid hx
  have HFr := Lib.hid (parse_from HTz.out hx)
  have hh1 : Hold w (w2.setCells w.heap.size 0 [.int .i64 x.m.kd, .int .i64 x.m.fr, .int .i64 x.m.vw, .int .i64 x.m.ins, .int .i64 x.m.sq, .int .i64 x.m.rs, .slice x.A1 x.m.bt.length x.c1, .slice x.A2 x.m.vs.length x.c2, .slice x.A3 x.m.cs.length x.c3, .slice x.A4 x.m.ps.length x.c4]) x := Hold.fresh (x := x) HB2.out HBl2.out (ho.base hs0)
  obtain ⟨w3, hw3⟩ : ∃ w3, w2.setCells w.heap.size 0 [.int .i64 x.m.kd, .int .i64 x.m.fr, .int .i64 x.m.vw, .int .i64 x.m.ins, .int .i64 x.m.sq, .int .i64 x.m.rs, .slice x.A1 x.m.bt.length x.c1, .slice x.A2 x.m.vs.length x.c2, .slice x.A3 x.m.cs.length x.c3, .slice x.A4 x.m.ps.length x.c4] = w3 := ⟨_, rfl⟩
  rw [hw3] at hh1
  have HD := Lib.hid hh1
  have HWz := Lib.hid hw3
  clear hh1 hw3
  have hN3 := HN2.out.kept (w' := w3) (Z := fun k => k = w.heap.size) (by rw [← HWz.out]; exact turn_ten w2 _ _ _ _ _ _ _ _ _ _ _) (by have := hNl.1; omega) (by have := hNl.2; omega)
  have HN3 := Lib.hid hN3
  have HT3 := Lib.hid (has_zone (w' := w3) (Z := fun k => k = w.heap.size) HT2.out (by rw [← HWz.out]; exact turn_ten w2 _ _ _ _ _ _ _ _ _ _ _) (fun k hk he => by omega))
  have KF0 := Lib.hid (fun w' (hw : Below w3.heap.size w3 w') => HFi.out x w' hx (HD.out.low.trans (hw.mono HD.out.low.size)) ((HD.out.below hw).own.in_))
  clear hx ho HFi hN3 hs0
  cases hF : F x.m
  case false =>
    rw [hF] at KF0
    have HR := Lib.hid (show openS F zs l = none by rw [HO1.out, HX.out]; simp [hF])
    clear hF
    go_wp2_with (refine wpList_store_mid rfl 35 (.tmp 8) (.tmp 31) rfl w.heap.size 0 #[.int .i64 x.m.kd, .int .i64 x.m.fr, .int .i64 x.m.vw, .int .i64 x.m.ins, .int .i64 x.m.sq, .int .i64 x.m.rs, .slice x.A1 x.m.bt.length x.c1, .slice x.A2 x.m.vs.length x.c2, .slice x.A3 x.m.cs.length x.c3, .slice x.A4 x.m.ps.length x.c4] rfl rfl HTh.out msg_size (one_ten _ _ _ _ _ _ _ _ _ _ _ _ _ _ _ _ _ _) ?_; rw [HWz.out])
    have KF := fun d os => Calls.regrown_of (KF0.out (grow (redrawn w3 d) os) (below_regrown w3 d os))
    obtain ⟨d0, d1, d2, d3, d4, d5, d6, d7, d8, d9⟩ := blk_cells10 HD.out.blk
    clear KF0 R1
    refine wp_region_quiet_below (by kernel_rfl) (by kernel_rfl) ?_
    refine wq_out ?_
    iterate 6 (refine wq_do (by kernel_rfl) (fun K hK => ?_); go_simp; refine hK _ ?_; clear hK K)
    refine wq_do (by kernel_rfl) (fun K hK => ?_)
    go_simp
    apply Exists.intro
    refine ⟨fun a => ?_, hK _ ?_⟩
    · exact KF a.d a.os
    clear hK K
    iterate 3 (refine wq_do (by kernel_rfl) (fun K hK => ?_); go_simp; refine hK _ ?_; clear hK K)
    iterate 9 (refine wq_skip (by kernel_rfl) ?_)
    refine wq_do (by kernel_rfl) (fun K hK => ?_)
    go_simp
    refine hK _ ?_
    clear hK K
    refine wq_nil ?_
    intro _ hw'
    obtain ⟨⟨dq, osq⟩, hw''⟩ := hw'
    subst hw''
    clear KF d0 d1 d2 d3 d4 d5 d6 d7 d8 d9
    have hd2 := HD.out.below (below_regrown w3 dq osq)
    obtain ⟨w4, hw4⟩ : ∃ w4, grow (redrawn w3 dq) osq = w4 := ⟨_, rfl⟩
    rw [hw4] at hd2 ⊢
    have HD2 := Lib.hid hd2
    clear hd2 hw4 HTh HWz
    have HThz := Lib.hid (there_ten HD2.out.blk)
    obtain ⟨wz, hwz⟩ : ∃ wz, w4.setCells w.heap.size 0 [.int .i64 0, .int .i64 0, .int .i64 0, .int .i64 0, .int .i64 0, .int .i64 0, .slice none 0 0, .slice none 0 0, .slice none 0 0, .slice none 0 0] = wz := ⟨_, rfl⟩
    have hz2 := HD2.out.zero
    rw [hwz] at hz2
    have HWzz := Lib.hid hwz
    have HBz := Lib.hid hz2.1
    have z0 : wz.cell? ⟨w.heap.size, 0, none⟩ = some (.int .i64 0) := hz2.2.cell 0
    have z1 : wz.cell? ⟨w.heap.size, 1, none⟩ = some (.int .i64 0) := hz2.2.cell 1
    have z2 : wz.cell? ⟨w.heap.size, 2, none⟩ = some (.int .i64 0) := hz2.2.cell 2
    have z3 : wz.cell? ⟨w.heap.size, 3, none⟩ = some (.int .i64 0) := hz2.2.cell 3
    have z4 : wz.cell? ⟨w.heap.size, 4, none⟩ = some (.int .i64 0) := hz2.2.cell 4
    have z5 : wz.cell? ⟨w.heap.size, 5, none⟩ = some (.int .i64 0) := hz2.2.cell 5
    have z6 : wz.cell? ⟨w.heap.size, 6, none⟩ = some (.slice none 0 0) := hz2.2.cell 6
    have z7 : wz.cell? ⟨w.heap.size, 7, none⟩ = some (.slice none 0 0) := hz2.2.cell 7
    have z8 : wz.cell? ⟨w.heap.size, 8, none⟩ = some (.slice none 0 0) := hz2.2.cell 8
    have z9 : wz.cell? ⟨w.heap.size, 9, none⟩ = some (.slice none 0 0) := hz2.2.cell 9
    clear hwz hz2
    go_wp2_with (refine wpList_store_mid rfl 35 (.tmp 8) (.tmp 53) rfl w.heap.size 0 #[.int .i64 0, .int .i64 0, .int .i64 0, .int .i64 0, .int .i64 0, .int .i64 0, .slice none 0 0, .slice none 0 0, .slice none 0 0, .slice none 0 0] rfl rfl HThz.out msg_size (one_ten 0 0 0 0 0 0 none none none none 0 0 0 0 0 0 0 0) ?_; rw [HWzz.out])
    refine bodyPost_ret (v := .tuple #[.agg #[.int .i64 0, .int .i64 0, .int .i64 0, .int .i64 0, .int .i64 0, .int .i64 0, .slice none 0 0, .slice none 0 0, .slice none 0 0, .slice none 0 0], .int .i64 0, .int .i64 2]) ?_ ?_ ?_
    case refine_2 => rfl
    case refine_3 => exact ⟨HBz.out, Or.inr ⟨HR.out, rfl⟩⟩
    simp [results, Tryz.results21, go_sem, z0, z1, z2, z3, z4, z5, z6, z7, z8, z9]
  case true =>
    rw [hF] at KF0
    have KC0 := Lib.hid (fun w' (hw : Below w3.heap.size w3 w') => (check_any (HN3.out.below hw) (p := x.m.fr) (k := k) (c := c - i) HFr.out (HT3.out.below (hw.mono (Nat.le_trans hB HD.out.low.size)) (Nat.le_refl _)) HTl.out (by unfold maxLen; omega)).mono (R' := fun e w2 => e = .returned (.bool (checkS l (deedM x.m ts) k)) ∧ Below w'.heap.size w' w2) (fun e w2 h => ⟨h.1, by obtain ⟨m, rfl⟩ := h.2; exact below_drewN (Below.refl _ _) m⟩))
    cases hC : checkS l (deedM x.m ts) k
    case false =>
      rw [hC] at KC0
      have HR := Lib.hid (show openS F zs l = none by rw [HO1.out, HX.out]; simp [hF, hC])
      clear hF hC
      go_wp2_with (refine wpList_store_mid rfl 35 (.tmp 8) (.tmp 31) rfl w.heap.size 0 #[.int .i64 x.m.kd, .int .i64 x.m.fr, .int .i64 x.m.vw, .int .i64 x.m.ins, .int .i64 x.m.sq, .int .i64 x.m.rs, .slice x.A1 x.m.bt.length x.c1, .slice x.A2 x.m.vs.length x.c2, .slice x.A3 x.m.cs.length x.c3, .slice x.A4 x.m.ps.length x.c4] rfl rfl HTh.out msg_size (one_ten _ _ _ _ _ _ _ _ _ _ _ _ _ _ _ _ _ _) ?_; rw [HWz.out])
      have KF := fun d os => Calls.regrown_of (KF0.out (grow (redrawn w3 d) os) (below_regrown w3 d os))
      have KC := fun d os => Calls.regrown_of (KC0.out (grow (redrawn w3 d) os) (below_regrown w3 d os))
      obtain ⟨d0, d1, d2, d3, d4, d5, d6, d7, d8, d9⟩ := blk_cells10 HD.out.blk
      clear KF0 KC0
      refine wp_region_quiet_below (by kernel_rfl) (by kernel_rfl) ?_
      refine wq_out ?_
      iterate 6 (refine wq_do (by kernel_rfl) (fun K hK => ?_); go_simp; refine hK _ ?_; clear hK K)
      refine wq_do (by kernel_rfl) (fun K hK => ?_)
      go_simp
      apply Exists.intro
      refine ⟨fun a => ?_, hK _ ?_⟩
      · exact KF a.d a.os
      clear hK K
      iterate 10 (refine wq_do (by kernel_rfl) (fun K hK => ?_); go_simp; refine hK _ ?_; clear hK K)
      refine wq_do (by kernel_rfl) (fun K hK => ?_)
      go_simp
      apply Exists.intro
      refine ⟨fun a => ?_, hK _ ?_⟩
      · exact KC a.d a.os
      clear hK K
      iterate 2 (refine wq_do (by kernel_rfl) (fun K hK => ?_); go_simp; refine hK _ ?_; clear hK K)
      refine wq_nil ?_
      intro _ hw'
      obtain ⟨⟨dq, osq⟩, hw''⟩ := hw'
      subst hw''
      clear KF KC d0 d1 d2 d3 d4 d5 d6 d7 d8 d9 R1
      have hd2 := HD.out.below (below_regrown w3 dq osq)
      obtain ⟨w4, hw4⟩ : ∃ w4, grow (redrawn w3 dq) osq = w4 := ⟨_, rfl⟩
      rw [hw4] at hd2 ⊢
      have HD2 := Lib.hid hd2
      clear hd2 hw4 HTh HWz
      have HThz := Lib.hid (there_ten HD2.out.blk)
      obtain ⟨wz, hwz⟩ : ∃ wz, w4.setCells w.heap.size 0 [.int .i64 0, .int .i64 0, .int .i64 0, .int .i64 0, .int .i64 0, .int .i64 0, .slice none 0 0, .slice none 0 0, .slice none 0 0, .slice none 0 0] = wz := ⟨_, rfl⟩
      have hz2 := HD2.out.zero
      rw [hwz] at hz2
      have HWzz := Lib.hid hwz
      have HBz := Lib.hid hz2.1
      have z0 : wz.cell? ⟨w.heap.size, 0, none⟩ = some (.int .i64 0) := hz2.2.cell 0
      have z1 : wz.cell? ⟨w.heap.size, 1, none⟩ = some (.int .i64 0) := hz2.2.cell 1
      have z2 : wz.cell? ⟨w.heap.size, 2, none⟩ = some (.int .i64 0) := hz2.2.cell 2
      have z3 : wz.cell? ⟨w.heap.size, 3, none⟩ = some (.int .i64 0) := hz2.2.cell 3
      have z4 : wz.cell? ⟨w.heap.size, 4, none⟩ = some (.int .i64 0) := hz2.2.cell 4
      have z5 : wz.cell? ⟨w.heap.size, 5, none⟩ = some (.int .i64 0) := hz2.2.cell 5
      have z6 : wz.cell? ⟨w.heap.size, 6, none⟩ = some (.slice none 0 0) := hz2.2.cell 6
      have z7 : wz.cell? ⟨w.heap.size, 7, none⟩ = some (.slice none 0 0) := hz2.2.cell 7
      have z8 : wz.cell? ⟨w.heap.size, 8, none⟩ = some (.slice none 0 0) := hz2.2.cell 8
      have z9 : wz.cell? ⟨w.heap.size, 9, none⟩ = some (.slice none 0 0) := hz2.2.cell 9
      clear hwz hz2
      go_wp2_with (refine wpList_store_mid rfl 35 (.tmp 8) (.tmp 53) rfl w.heap.size 0 #[.int .i64 0, .int .i64 0, .int .i64 0, .int .i64 0, .int .i64 0, .int .i64 0, .slice none 0 0, .slice none 0 0, .slice none 0 0, .slice none 0 0] rfl rfl HThz.out msg_size (one_ten 0 0 0 0 0 0 none none none none 0 0 0 0 0 0 0 0) ?_; rw [HWzz.out])
      refine bodyPost_ret (v := .tuple #[.agg #[.int .i64 0, .int .i64 0, .int .i64 0, .int .i64 0, .int .i64 0, .int .i64 0, .slice none 0 0, .slice none 0 0, .slice none 0 0, .slice none 0 0], .int .i64 0, .int .i64 2]) ?_ ?_ ?_
      case refine_2 => rfl
      case refine_3 => exact ⟨HBz.out, Or.inr ⟨HR.out, rfl⟩⟩
      simp [results, Tryz.results21, go_sem, z0, z1, z2, z3, z4, z5, z6, z7, z8, z9]
    case true =>
      rw [hC] at KC0
      have HR := Lib.hid (show openS F zs l = some (x.m, k) by rw [HO1.out, HX.out]; simp [hF, hC])
      clear hF hC
      go_wp2_with (refine wpList_store_mid rfl 35 (.tmp 8) (.tmp 31) rfl w.heap.size 0 #[.int .i64 x.m.kd, .int .i64 x.m.fr, .int .i64 x.m.vw, .int .i64 x.m.ins, .int .i64 x.m.sq, .int .i64 x.m.rs, .slice x.A1 x.m.bt.length x.c1, .slice x.A2 x.m.vs.length x.c2, .slice x.A3 x.m.cs.length x.c3, .slice x.A4 x.m.ps.length x.c4] rfl rfl HTh.out msg_size (one_ten _ _ _ _ _ _ _ _ _ _ _ _ _ _ _ _ _ _) ?_; rw [HWz.out])
      have KF := fun d os => Calls.regrown_of (KF0.out (grow (redrawn w3 d) os) (below_regrown w3 d os))
      have KC := fun d os => Calls.regrown_of (KC0.out (grow (redrawn w3 d) os) (below_regrown w3 d os))
      obtain ⟨d0, d1, d2, d3, d4, d5, d6, d7, d8, d9⟩ := blk_cells10 HD.out.blk
      clear KF0 KC0
      refine wp_region_quiet_below (by kernel_rfl) (by kernel_rfl) ?_
      refine wq_out ?_
      iterate 6 (refine wq_do (by kernel_rfl) (fun K hK => ?_); go_simp; refine hK _ ?_; clear hK K)
      refine wq_do (by kernel_rfl) (fun K hK => ?_)
      go_simp
      apply Exists.intro
      refine ⟨fun a => ?_, hK _ ?_⟩
      · exact KF a.d a.os
      clear hK K
      iterate 10 (refine wq_do (by kernel_rfl) (fun K hK => ?_); go_simp; refine hK _ ?_; clear hK K)
      refine wq_do (by kernel_rfl) (fun K hK => ?_)
      go_simp
      apply Exists.intro
      refine ⟨fun a => ?_, hK _ ?_⟩
      · exact KC a.d a.os
      clear hK K
      iterate 2 (refine wq_do (by kernel_rfl) (fun K hK => ?_); go_simp; refine hK _ ?_; clear hK K)
      refine wq_nil ?_
      intro _ hw'
      obtain ⟨⟨dq, osq⟩, hw''⟩ := hw'
      subst hw''
      clear KF KC d0 d1 d2 d3 d4 d5 d6 d7 d8 d9 R1
      have hd2 := HD.out.below (below_regrown w3 dq osq)
      obtain ⟨w4, hw4⟩ : ∃ w4, grow (redrawn w3 dq) osq = w4 := ⟨_, rfl⟩
      rw [hw4] at hd2 ⊢
      have HD2 := Lib.hid hd2
      clear hd2 hw4 HTh HWz
      have z0 : w4.cell? ⟨w.heap.size, 0, none⟩ = some (.int .i64 x.m.kd) := HD2.out.blk.cell 0
      have z1 : w4.cell? ⟨w.heap.size, 1, none⟩ = some (.int .i64 x.m.fr) := HD2.out.blk.cell 1
      have z2 : w4.cell? ⟨w.heap.size, 2, none⟩ = some (.int .i64 x.m.vw) := HD2.out.blk.cell 2
      have z3 : w4.cell? ⟨w.heap.size, 3, none⟩ = some (.int .i64 x.m.ins) := HD2.out.blk.cell 3
      have z4 : w4.cell? ⟨w.heap.size, 4, none⟩ = some (.int .i64 x.m.sq) := HD2.out.blk.cell 4
      have z5 : w4.cell? ⟨w.heap.size, 5, none⟩ = some (.int .i64 x.m.rs) := HD2.out.blk.cell 5
      have z6 : w4.cell? ⟨w.heap.size, 6, none⟩ = some (.slice x.A1 x.m.bt.length x.c1) := HD2.out.blk.cell 6
      have z7 : w4.cell? ⟨w.heap.size, 7, none⟩ = some (.slice x.A2 x.m.vs.length x.c2) := HD2.out.blk.cell 7
      have z8 : w4.cell? ⟨w.heap.size, 8, none⟩ = some (.slice x.A3 x.m.cs.length x.c3) := HD2.out.blk.cell 8
      have z9 : w4.cell? ⟨w.heap.size, 9, none⟩ = some (.slice x.A4 x.m.ps.length x.c4) := HD2.out.blk.cell 9
      have HThz := Lib.hid (there_ten HD2.out.blk)
      have hag := HD2.out.again
      obtain ⟨wz, hwz⟩ : ∃ wz, w4.setCells w.heap.size 0 [.int .i64 x.m.kd, .int .i64 x.m.fr, .int .i64 x.m.vw, .int .i64 x.m.ins, .int .i64 x.m.sq, .int .i64 x.m.rs, .slice x.A1 x.m.bt.length x.c1, .slice x.A2 x.m.vs.length x.c2, .slice x.A3 x.m.cs.length x.c3, .slice x.A4 x.m.ps.length x.c4] = wz := ⟨_, rfl⟩
      rw [hwz] at hag
      have HWzz := Lib.hid hwz
      have y0 : wz.cell? ⟨w.heap.size, 0, none⟩ = some (.int .i64 x.m.kd) := hag.blk.cell 0
      have y1 : wz.cell? ⟨w.heap.size, 1, none⟩ = some (.int .i64 x.m.fr) := hag.blk.cell 1
      have y2 : wz.cell? ⟨w.heap.size, 2, none⟩ = some (.int .i64 x.m.vw) := hag.blk.cell 2
      have y3 : wz.cell? ⟨w.heap.size, 3, none⟩ = some (.int .i64 x.m.ins) := hag.blk.cell 3
      have y4 : wz.cell? ⟨w.heap.size, 4, none⟩ = some (.int .i64 x.m.sq) := hag.blk.cell 4
      have y5 : wz.cell? ⟨w.heap.size, 5, none⟩ = some (.int .i64 x.m.rs) := hag.blk.cell 5
      have y6 : wz.cell? ⟨w.heap.size, 6, none⟩ = some (.slice x.A1 x.m.bt.length x.c1) := hag.blk.cell 6
      have y7 : wz.cell? ⟨w.heap.size, 7, none⟩ = some (.slice x.A2 x.m.vs.length x.c2) := hag.blk.cell 7
      have y8 : wz.cell? ⟨w.heap.size, 8, none⟩ = some (.slice x.A3 x.m.cs.length x.c3) := hag.blk.cell 8
      have y9 : wz.cell? ⟨w.heap.size, 9, none⟩ = some (.slice x.A4 x.m.ps.length x.c4) := hag.blk.cell 9
      have HAg := Lib.hid hag
      clear hwz hag
      go_wp2_with (refine wpList_store_mid rfl 35 (.tmp 8) (.tmp 54) rfl w.heap.size 0 #[.int .i64 x.m.kd, .int .i64 x.m.fr, .int .i64 x.m.vw, .int .i64 x.m.ins, .int .i64 x.m.sq, .int .i64 x.m.rs, .slice x.A1 x.m.bt.length x.c1, .slice x.A2 x.m.vs.length x.c2, .slice x.A3 x.m.cs.length x.c3, .slice x.A4 x.m.ps.length x.c4] rfl rfl HThz.out msg_size (one_ten _ _ _ _ _ _ _ _ _ _ _ _ _ _ _ _ _ _) ?_; rw [HWzz.out])
      refine bodyPost_ret (v := .tuple #[.agg #[.int .i64 x.m.kd, .int .i64 x.m.fr, .int .i64 x.m.vw, .int .i64 x.m.ins, .int .i64 x.m.sq, .int .i64 x.m.rs, .slice x.A1 x.m.bt.length x.c1, .slice x.A2 x.m.vs.length x.c2, .slice x.A3 x.m.cs.length x.c3, .slice x.A4 x.m.ps.length x.c4], .int .i64 k, .int .i64 0]) ?_ ?_ ?_
      case refine_2 => rfl
      case refine_3 => exact ⟨HAg.out.low, Or.inl ⟨x, k, HR.out, rfl, HAg.out.own.base (Nat.le_succ _)⟩⟩
      simp [results, Tryz.results21, go_sem, y0, y1, y2, y3, y4, y5, y6, y7, y8, y9]
end Go.Proofs.YtiffmjfbdidgkaaGreat
