/- The walk of SlotOther: it returns true for any two ints. -/
import Derived.Test.YthlmalangjgioaaSlot6
import Derived.Test.YthlmalangjgioaaRefBallot
namespace Go.Proofs.Ythlmalangjgioaa
open Go.RowKit
set_option linter.unusedSimpArgs false

def oy : Rq := ⟨0, 2, 0, 0, 0, 0⟩
/-- All nodes up to i have voted for the other batch. -/
def Ot4 (n i : Nat) : Sx := ⟨some [wk14], fillV i n ⟨true, 1, [oy]⟩, List.replicate n offV⟩
def Ot5 (n i : Nat) : Sx := ⟨some [wk14], List.replicate n offV, fillV i n ⟨true, 1, [oy]⟩⟩
theorem ot_ne : ([oy] : List Rq) ≠ [wk14] := by decide
theorem fill_at {n i : Nat} (z : Vo) : (fillV (i + 1) n z)[i]? = some z := by
  unfold fillV
  rw [List.getElem?_append_left (by simp), List.getElem?_replicate, if_pos (by omega)]
theorem ot4_new (n : Nat) : (Sx.new n).pre [wk14] = Ot4 n 0 := rfl
theorem ot5_new (n : Nat) : (Sx.new n).pre [wk14] = Ot5 n 0 := rfl
theorem ot4_v {n i : Nat} (h : i < n) : (Ot4 n i).vote 4 (i : Int) 1 [oy] = (true, Ot4 n (i + 1)) := by
  unfold Sx.vote Ot4
  rw [if_pos rfl]
  have := fillV_vote h (z := ⟨true, 1, [oy]⟩) rfl
  simp only at this ⊢
  rw [this]
theorem ot5_v {n i : Nat} (h : i < n) : (Ot5 n i).vote 5 (i : Int) 1 [oy] = (true, Ot5 n (i + 1)) := by
  unfold Sx.vote Ot5
  rw [if_neg (by omega), if_pos rfl]
  have := fillV_vote h (z := ⟨true, 1, [oy]⟩) rfl
  simp only at this ⊢
  rw [this]
theorem ot4_u {n i : Nat} (_ : i < n) : (Ot4 n (i + 1)).vote 4 (i : Int) 1 [wk14] = (false, Ot4 n (i + 1)) := by
  unfold Sx.vote Ot4
  rw [if_pos rfl]
  simp only
  rw [votS_had (fill_at _) rfl]
theorem ot5_u {n i : Nat} (_ : i < n) : (Ot5 n (i + 1)).vote 5 (i : Int) 1 [wk14] = (false, Ot5 n (i + 1)) := by
  unfold Sx.vote Ot5
  rw [if_neg (by omega), if_pos rfl]
  simp only
  rw [votS_had (fill_at _) rfl]
theorem off_had {n i : Nat} : hadS (List.replicate n offV) (i : Int) = false := by
  by_cases h : i < n
  · rw [hadS_at (x := offV) (by rw [List.getElem?_replicate, if_pos h])]; rfl
  · exact hadS_bad (by rw [List.length_replicate]; omega)
theorem ot4_h {n i : Nat} : (Ot4 n (i + 1)).voted 5 (i : Int) = false := by
  unfold Sx.voted Ot4
  rw [if_neg (by omega), if_pos rfl]
  exact off_had
theorem ot5_h {n i : Nat} : (Ot5 n (i + 1)).voted 4 (i : Int) = false := by
  unfold Sx.voted Ot5
  rw [if_pos rfl]
  exact off_had
theorem ot4_p {n q : Nat} (h : 0 < q) : (Ot4 n n).prep q = none := decS_fill (z := ⟨true, 1, [oy]⟩) rfl (Or.inr ⟨ot_ne, h⟩)
theorem ot5_p {n q : Nat} (h : 0 < q) : (Ot5 n n).prep q = none := decS_off h
theorem ot4_c {n q : Nat} (h : 0 < q) : (Ot4 n n).com q = none := comS_off h
theorem ot5_c {n q : Nat} (h : 0 < q) (hn : n < 2 * q) (hq : q ≤ n) : ∃ v, (Ot5 n n).com q = some ([oy], v) ∧ v.length = q := comS_fullN (z := ⟨true, 1, [oy]⟩) rfl h hn hq
theorem new_com {n q : Nat} (h : 0 < q) : (Sx.new n).com q = none := comS_off h
theorem new_voted4 {n : Nat} : (Sx.new n).voted 4 0 = false := by
  unfold Sx.voted Sx.new
  rw [if_pos rfl]
  exact off_had (i := 0)
theorem new_voted5 {n : Nat} : (Sx.new n).voted 5 0 = false := by
  unfold Sx.voted Sx.new
  rw [if_neg (by omega), if_pos rfl]
  exact off_had (i := 0)
set_option maxRecDepth 100000 in
set_option maxHeartbeats 4000000 in
theorem slotOther_walk (a0 a1 : Int) (w : World) (w0 : (Lit.int .i64 a0).wf = true) (w1 : (Lit.int .i64 a1).wf = true) :
    Calls Try.prog 8 #[.int .i64 a0, .int .i64 a1] w fun e w' => e = .returned (.bool true) ∧ Below w.heap.size w w' := by
  obtain ⟨b0, b1⟩ := wf_i64 w0
  obtain ⟨b2, b3⟩ := wf_i64 w1
  have HW4 := Lib.hid (fun w => within_any a0 4 (by omega) (by omega) b0 b1 w)
  have HW2 := Lib.hid (fun w => within_any a1 2 (by omega) (by omega) b2 b3 w)
  have hf1 : 0 ≤ a0 % 4 ∧ a0 % 4 < 4 := ⟨Int.emod_nonneg _ (by omega), Int.emod_lt_of_pos _ (by omega)⟩
  have hk1 : 0 ≤ a1 % 2 ∧ a1 % 2 < 2 := ⟨Int.emod_nonneg _ (by omega), Int.emod_lt_of_pos _ (by omega)⟩
  obtain ⟨p, hp⟩ : ∃ p : Nat, a0 % 4 = p := ⟨(a0 % 4).toNat, by omega⟩
  rw [hp] at HW4 hf1
  obtain ⟨q, hq⟩ : ∃ q : Nat, (q : Int) = 2 * (1 + (p : Int)) + 1 := ⟨2 * p + 3, by omega⟩
  obtain ⟨n, hn⟩ : ∃ n : Nat, (n : Int) = 3 * (1 + (p : Int)) + 1 := ⟨3 * p + 4, by omega⟩
  have HQn := Lib.hid (show q ≤ n ∧ n < 2 * q ∧ 0 < q from ⟨by omega, by omega, by omega⟩)
  have hn13 : n ≤ 13 := by omega
  have HNo := Lib.hid (fun (w : World) => (show Calls Try.prog 13 #[.int .i64 (1 + p)] w fun e w' => e = .returned (.int .i64 (n : Int)) ∧ w = w' from by
    have := rnodes_any (1 + p) w
    rwa [nodesS_in (by omega) (by omega), ← hn] at this))
  have HNew := Lib.hid (fun w => rs_new (f := 1 + (p : Int)) (n := n) (by omega) (by omega) hn w w (Below.refl _ _))
  have HQq := Lib.hid hq
  have hk : a1 % 2 = 0 ∨ a1 % 2 = 1 := by omega
  clear w0 w1 b0 b1 b2 b3 hp hn hq
  go_enter Try.func8, Try.ntmps8
  go_wp2_with fail
  refine (HW4.out _).mono ?_
  rintro e wa ⟨rfl, rfl⟩
  go_wp2_with fail
  refine (HNew.out _).mono ?_
  rintro e w1 ⟨sb, v1, v2, rfl, hR, -, -⟩
  have HR := Lib.hid hR
  clear hR
  have HBx := Lib.hid (Blk.new w1 32 #[.int .i64 0, .int .i64 1, .int .i64 0, .int .i64 0, .int .i64 0, .int .i64 0])
  have HAl := Lib.hid (show Below w1.heap.size w1 ((w1.alloc (.cells #[.int .i64 0, .int .i64 1, .int .i64 0, .int .i64 0, .int .i64 0, .int .i64 0] 32)).alloc (.cells #[.int .i64 0, .int .i64 2, .int .i64 0, .int .i64 0, .int .i64 0, .int .i64 0] 32)) from ((Below.refl _ _).alloc (Nat.le_refl _) _).alloc (by simp) _)
  have HX := Lib.hid (HBx.out.alloc (.cells #[.int .i64 0, .int .i64 2, .int .i64 0, .int .i64 0, .int .i64 0, .int .i64 0] 32))
  have HY := Lib.hid (Blk.new1 w1 (.cells #[.int .i64 0, .int .i64 1, .int .i64 0, .int .i64 0, .int .i64 0, .int .i64 0] 32) 32 #[.int .i64 0, .int .i64 2, .int .i64 0, .int .i64 0, .int .i64 0, .int .i64 0])
  have HR1 := Lib.hid (HR.out.below HAl.out)
  clear HR HBx HAl
  go_wp2_with fail
  refine (spre_any HR1.out.sl (has_one wk14 HX.out) (n := 1) rfl (by omega)).mono ?_
  rintro e w2 ⟨rfl, hp⟩
  have hx2 := hp.far HR1.out.sl HX.out (by decide) (by decide)
  have hy2 := hp.far HR1.out.sl HY.out (by decide) (by decide)
  obtain ⟨u1, u2, hr⟩ := HR1.out.post hp
  rw [show (!(Sx.new n).ch.isSome) = true from rfl]
  obtain ⟨gx, hgx⟩ : ∃ y, w1.heap.size = y := ⟨_, rfl⟩
  obtain ⟨gy, hgy⟩ : ∃ y, w1.heap.size + 1 = y := ⟨_, rfl⟩
  rw [hgy] at hy2 ⊢
  rw [hgx] at hx2 ⊢
  have HX2 := Lib.hid hx2
  have HY2 := Lib.hid hy2
  clear hp hx2 hy2 hgx hgy HX HY HR1
  go_wp2_with fail
  refine (HW2.out _).mono ?_
  rintro e wa ⟨rfl, rfl⟩
  rcases hk with hk | hk
  · rw [hk]
    have HR4 := Lib.hid (show Rs _ sb u1 u2 (1 + (p : Int)) (Ot4 n 0) w2 from hr)
    clear hr hk1 hk HW2
    go_wp2_with fail
    go_loopw [9] (fun x wr => ∃ (i : Nat) (v1 v2 : Value), x = .int .i64 i ∧ i ≤ n ∧ Hid (Rs w sb v1 v2 (1 + (p : Int)) (Ot4 n i) wr) ∧ Hid (Blk wr gx 32 #[.int .i64 0, .int .i64 1, .int .i64 0, .int .i64 0, .int .i64 0, .int .i64 0]) ∧ Hid (Blk wr gy 32 #[.int .i64 0, .int .i64 2, .int .i64 0, .int .i64 0, .int .i64 0, .int .i64 0])) (fun x _ => n - (intOf x).toNat)
    case atStart => exact ⟨0, u1, u2, rfl, Nat.zero_le _, HR4, HX2, HY2⟩
    case round =>
      obtain ⟨i, v1, v2, rfl, hi, HR, HX, HY⟩ := hrel
      by_cases hlt : i < n
      · have HV := Lib.hid (ot4_v hlt)
        have HU := Lib.hid (ot4_u hlt)
        have HH := Lib.hid (ot4_h (n := n) (i := i))
        go_wp2_with fail
        refine (HNo.out _).mono ?_
        rintro e wq ⟨rfl, rfl⟩
        go_wp2_with fail
        refine (svote_any HR.out.sl 4 i 1 (has_one oy HY.out) (n := 1) rfl (by omega)).mono ?_
        rintro e w5 ⟨rfl, hp⟩
        have hx := hp.far HR.out.sl HX.out (by decide) (by decide)
        have hy := hp.far HR.out.sl HY.out (by decide) (by decide)
        obtain ⟨x1, x2, hr⟩ := HR.out.post hp
        rw [HV.out] at hr ⊢
        have HR5 := Lib.hid hr
        have HX5 := Lib.hid hx
        have HY5 := Lib.hid hy
        clear hp hr hx hy HR HX HY
        go_wp2_with fail
        refine (svote_any HR5.out.sl 4 i 1 (has_one wk14 HX5.out) (n := 1) rfl (by omega)).mono ?_
        rintro e w6 ⟨rfl, hp⟩
        have hx := hp.far HR5.out.sl HX5.out (by decide) (by decide)
        have hy := hp.far HR5.out.sl HY5.out (by decide) (by decide)
        obtain ⟨y1, y2, hr⟩ := HR5.out.post hp
        rw [HU.out] at hr ⊢
        have HR6 := Lib.hid hr
        have HX6 := Lib.hid hx
        have HY6 := Lib.hid hy
        clear hp hr hx hy HR5 HX5 HY5
        have HVd := Lib.hid (svoted_any HR6.out.sl 5 i)
        rw [HH.out] at HVd
        go_wp2_with fail
        refine HVd.out.mono ?_
        rintro e w7 ⟨rfl, rfl⟩
        go_wp2_with fail
        go_roundw
        case rel => exact ⟨i + 1, y1, y2, by go_num, by omega, HR6, HX6, HY6⟩
        case measure => simp [intOf]; omega
      · obtain rfl : i = n := by omega
        have HP := Lib.hid (sprep_any HR.out.sl HQq.out)
        rw [ot4_p HQn.out.2.2] at HP
        go_wp2_with fail
        refine (HNo.out _).mono ?_
        rintro e wq ⟨rfl, rfl⟩
        go_wp2_with fail
        refine HP.out.mono ?_
        rintro e w5 ⟨u, rfl, ho, hb⟩
        obtain ⟨A5, d5, rfl, -, -⟩ := own_slice ho
        have HR5 := Lib.hid (HR.out.below hb)
        have HX5 := Lib.hid (HX.out.below hb HX.out.lt)
        have HY5 := Lib.hid (HY.out.below hb HY.out.lt)
        clear ho hb HP HR HX HY
        have HC := Lib.hid (scom_any HR5.out.sl HQq.out)
        rw [ot4_c HQn.out.2.2] at HC
        have HLn := Lib.hid (show (Ot4 i i).P.length = i from fillV_len (Nat.le_refl _) _)
        go_wp2_with fail
        refine HC.out.mono ?_
        rintro e w8 ⟨u, u', rfl, ho, ho', hb⟩
        obtain ⟨A8, d8, rfl, -, -⟩ := own_slice ho
        obtain ⟨A9, d9, rfl, -, -⟩ := own_slice ho'
        have HR8 := Lib.hid (HR5.out.below hb)
        have HX8 := Lib.hid (HX5.out.below hb HX5.out.lt)
        have HY8 := Lib.hid (HY5.out.below hb HY5.out.lt)
        clear ho ho' hb HC HR5 HX5 HY5
        go_wp2_with fail
        refine (sreset_any HR8.out.sl HLn.out).mono ?_
        rintro e w9 ⟨rfl, hp⟩
        have hy := hp.far HR8.out.sl HY8.out (by decide) (by decide)
        obtain ⟨z1, z2, hr⟩ := HR8.out.post hp
        have HR9 := Lib.hid hr
        have HY9 := Lib.hid hy
        clear hp hr hy HR8 HX8 HY8
        have HCh := Lib.hid (schosen_any HR9.out.sl)
        rw [show (Sx.new i).ch.isSome = false from rfl, show (Sx.new i).ch.getD [] = [] from rfl] at HCh
        go_wp2_with fail
        refine HCh.out.mono ?_
        rintro e w10 ⟨u, rfl, ho, hb⟩
        obtain ⟨A10, d10, rfl, -, -⟩ := own_slice ho
        have HR10 := Lib.hid (HR9.out.below hb)
        have HY10 := Lib.hid (HY9.out.below hb HY9.out.lt)
        clear ho hb HCh HR9 HY9
        have HC2 := Lib.hid (scom_any HR10.out.sl HQq.out)
        rw [new_com HQn.out.2.2] at HC2
        go_wp2_with fail
        refine HC2.out.mono ?_
        rintro e w11 ⟨u, u', rfl, ho, ho', hb⟩
        obtain ⟨A11, d11, rfl, -, -⟩ := own_slice ho
        obtain ⟨A12, d12, rfl, -, -⟩ := own_slice ho'
        have HR11 := Lib.hid (HR10.out.below hb)
        have HY11 := Lib.hid (HY10.out.below hb HY10.out.lt)
        clear ho ho' hb HC2 HR10 HY10
        have HVd := Lib.hid (svoted_any HR11.out.sl 4 0)
        rw [new_voted4] at HVd
        go_wp2_with fail
        refine HVd.out.mono ?_
        rintro e w12 ⟨rfl, rfl⟩
        go_wp2_with fail
        refine (spre_any HR11.out.sl (has_one oy HY11.out) (n := 1) rfl (by omega)).mono ?_
        rintro e w13 ⟨rfl, hp⟩
        obtain ⟨s1, s2, hr⟩ := HR11.out.post hp
        rw [show (!(Sx.new i).ch.isSome) = true from rfl]
        have HR13 := Lib.hid hr.low
        clear hp hr HR11 HY11
        go_wp2_with fail
        refine (wakes14_any _).mono ?_
        rintro e w14 ⟨rfl, hb14⟩
        go_wp2_with fail
        go_ret
        exact ⟨rfl, HR13.out.trans (hb14.mono HR13.out.size)⟩
  · rw [hk]
    have HR4 := Lib.hid (show Rs _ sb u1 u2 (1 + (p : Int)) (Ot5 n 0) w2 from hr)
    clear hr hk1 hk HW2
    go_wp2_with fail
    go_loopw [9] (fun x wr => ∃ (i : Nat) (v1 v2 : Value), x = .int .i64 i ∧ i ≤ n ∧ Hid (Rs w sb v1 v2 (1 + (p : Int)) (Ot5 n i) wr) ∧ Hid (Blk wr gx 32 #[.int .i64 0, .int .i64 1, .int .i64 0, .int .i64 0, .int .i64 0, .int .i64 0]) ∧ Hid (Blk wr gy 32 #[.int .i64 0, .int .i64 2, .int .i64 0, .int .i64 0, .int .i64 0, .int .i64 0])) (fun x _ => n - (intOf x).toNat)
    case atStart => exact ⟨0, u1, u2, rfl, Nat.zero_le _, HR4, HX2, HY2⟩
    case round =>
      obtain ⟨i, v1, v2, rfl, hi, HR, HX, HY⟩ := hrel
      by_cases hlt : i < n
      · have HV := Lib.hid (ot5_v hlt)
        have HU := Lib.hid (ot5_u hlt)
        have HH := Lib.hid (ot5_h (n := n) (i := i))
        go_wp2_with fail
        refine (HNo.out _).mono ?_
        rintro e wq ⟨rfl, rfl⟩
        go_wp2_with fail
        refine (svote_any HR.out.sl 5 i 1 (has_one oy HY.out) (n := 1) rfl (by omega)).mono ?_
        rintro e w5 ⟨rfl, hp⟩
        have hx := hp.far HR.out.sl HX.out (by decide) (by decide)
        have hy := hp.far HR.out.sl HY.out (by decide) (by decide)
        obtain ⟨x1, x2, hr⟩ := HR.out.post hp
        rw [HV.out] at hr ⊢
        have HR5 := Lib.hid hr
        have HX5 := Lib.hid hx
        have HY5 := Lib.hid hy
        clear hp hr hx hy HR HX HY
        go_wp2_with fail
        refine (svote_any HR5.out.sl 5 i 1 (has_one wk14 HX5.out) (n := 1) rfl (by omega)).mono ?_
        rintro e w6 ⟨rfl, hp⟩
        have hx := hp.far HR5.out.sl HX5.out (by decide) (by decide)
        have hy := hp.far HR5.out.sl HY5.out (by decide) (by decide)
        obtain ⟨y1, y2, hr⟩ := HR5.out.post hp
        rw [HU.out] at hr ⊢
        have HR6 := Lib.hid hr
        have HX6 := Lib.hid hx
        have HY6 := Lib.hid hy
        clear hp hr hx hy HR5 HX5 HY5
        have HVd := Lib.hid (svoted_any HR6.out.sl 4 i)
        rw [HH.out] at HVd
        go_wp2_with fail
        refine HVd.out.mono ?_
        rintro e w7 ⟨rfl, rfl⟩
        go_wp2_with fail
        go_roundw
        case rel => exact ⟨i + 1, y1, y2, by go_num, by omega, HR6, HX6, HY6⟩
        case measure => simp [intOf]; omega
      · obtain rfl : i = n := by omega
        have HP := Lib.hid (sprep_any HR.out.sl HQq.out)
        rw [ot5_p HQn.out.2.2] at HP
        go_wp2_with fail
        refine (HNo.out _).mono ?_
        rintro e wq ⟨rfl, rfl⟩
        go_wp2_with fail
        refine HP.out.mono ?_
        rintro e w5 ⟨u, rfl, ho, hb⟩
        obtain ⟨A5, d5, rfl, -, -⟩ := own_slice ho
        have HR5 := Lib.hid (HR.out.below hb)
        have HX5 := Lib.hid (HX.out.below hb HX.out.lt)
        have HY5 := Lib.hid (HY.out.below hb HY.out.lt)
        clear ho hb HP HR HX HY
        have HC := Lib.hid (scom_any HR5.out.sl HQq.out)
        obtain ⟨cv, hcv, hcl⟩ := ot5_c (n := i) HQn.out.2.2 HQn.out.2.1 HQn.out.1
        rw [hcv] at HC
        have HLn := Lib.hid (show (Ot5 i i).P.length = i from List.length_replicate)
        clear hcv hcl
        go_wp2_with fail
        refine HC.out.mono ?_
        rintro e w8 ⟨u, u', rfl, ho, ho', hb⟩
        have HO8 := Lib.hid (show w8.ownsRow w5.heap.size 32 6 u 1 (reqCells [oy]) from ho)
        obtain ⟨A8, d8, rfl, -, -⟩ := own_slice HO8.out
        obtain ⟨A9, d9, rfl, -, -⟩ := own_slice ho'
        have HR7 := Lib.hid (HR5.out.below hb)
        have HX7 := Lib.hid (HX5.out.below hb HX5.out.lt)
        have HY7 := Lib.hid (HY5.out.below hb HY5.out.lt)
        clear ho ho' hb HC HR5 HX5 HY5
        have HS := Lib.hid (same_reqs_is (A := A8) (A' := some ⟨gy, 0, none⟩) (c := d8) (c' := 1) (la := 1) (lb := 1) (zs := [oy]) (ys := [oy]) (r := true) rfl rfl (by omega) (by decide +kernel) w8 (has_rows HO8.out) (has_one oy HY7.out))
        go_wp2_with fail
        refine HS.out.mono ?_
        rintro e w8' ⟨rfl, m, rfl⟩
        have HR8 := Lib.hid (HR7.out.drewN m)
        have HX8 := Lib.hid (HX7.out.drewN m)
        have HY8 := Lib.hid (HY7.out.drewN m)
        clear HS HO8 HR7 HX7 HY7
        go_wp2_with fail
        refine (sreset_any HR8.out.sl HLn.out).mono ?_
        rintro e w9 ⟨rfl, hp⟩
        have hy := hp.far HR8.out.sl HY8.out (by decide) (by decide)
        obtain ⟨z1, z2, hr⟩ := HR8.out.post hp
        have HR9 := Lib.hid hr
        have HY9 := Lib.hid hy
        clear hp hr hy HR8 HX8 HY8
        have HCh := Lib.hid (schosen_any HR9.out.sl)
        rw [show (Sx.new i).ch.isSome = false from rfl, show (Sx.new i).ch.getD [] = [] from rfl] at HCh
        go_wp2_with fail
        refine HCh.out.mono ?_
        rintro e w10 ⟨u, rfl, ho, hb⟩
        obtain ⟨A10, d10, rfl, -, -⟩ := own_slice ho
        have HR10 := Lib.hid (HR9.out.below hb)
        have HY10 := Lib.hid (HY9.out.below hb HY9.out.lt)
        clear ho hb HCh HR9 HY9
        have HC2 := Lib.hid (scom_any HR10.out.sl HQq.out)
        rw [new_com HQn.out.2.2] at HC2
        go_wp2_with fail
        refine HC2.out.mono ?_
        rintro e w11 ⟨u, u', rfl, ho, ho', hb⟩
        obtain ⟨A11, d11, rfl, -, -⟩ := own_slice ho
        obtain ⟨A12, d12, rfl, -, -⟩ := own_slice ho'
        have HR11 := Lib.hid (HR10.out.below hb)
        have HY11 := Lib.hid (HY10.out.below hb HY10.out.lt)
        clear ho ho' hb HC2 HR10 HY10
        have HVd := Lib.hid (svoted_any HR11.out.sl 5 0)
        rw [new_voted5] at HVd
        go_wp2_with fail
        refine HVd.out.mono ?_
        rintro e w12 ⟨rfl, rfl⟩
        go_wp2_with fail
        refine (spre_any HR11.out.sl (has_one oy HY11.out) (n := 1) rfl (by omega)).mono ?_
        rintro e w13 ⟨rfl, hp⟩
        obtain ⟨s1, s2, hr⟩ := HR11.out.post hp
        rw [show (!(Sx.new i).ch.isSome) = true from rfl]
        have HR13 := Lib.hid hr.low
        clear hp hr HR11 HY11
        go_wp2_with fail
        refine (wakes14_any _).mono ?_
        rintro e w14 ⟨rfl, hb14⟩
        go_wp2_with fail
        go_ret
        exact ⟨rfl, HR13.out.trans (hb14.mono HR13.out.size)⟩
end Go.Proofs.Ythlmalangjgioaa
