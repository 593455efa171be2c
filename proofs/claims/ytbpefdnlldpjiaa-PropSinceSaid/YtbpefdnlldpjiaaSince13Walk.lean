/- The walk of PropSince: it returns true for any int, request and ints. -/
import Derived.Test.YtbpefdnlldpjiaaPropClone
import Derived.Test.YtbpefdnlldpjiaaPropOne
namespace Go.Proofs.Ytbpefdnlldpjiaa
open Go.RowKit Go.Sort
set_option linter.unusedSimpArgs false

/-- The first i nodes. -/
def firstN (i : Nat) : List Bool := List.replicate i true ++ List.replicate (13 - i) false
theorem first_get {i : Nat} (h : i < 13) : (firstN i)[i]? = some false := by
  have : ∀ i : Fin 13, (firstN i.val)[i.val]? = some false := by decide
  exact this ⟨i, h⟩
theorem first_set {i : Nat} (h : i < 13) : (firstN i).set i true = firstN (i + 1) := by
  have : ∀ i : Fin 13, (firstN i.val).set i.val true = firstN (i.val + 1) := by decide
  exact this ⟨i, h⟩
theorem first_cnt {i : Nat} (h : i < 14) : cnt (firstN i) = i := by
  have : ∀ i : Fin 14, cnt (firstN i.val) = i.val := by decide
  exact this ⟨i, h⟩
theorem first_zero {i : Nat} (h : i < 14) (h0 : 0 < i) : marked (firstN i) 0 = true := by
  have : ∀ i : Fin 14, 0 < i.val → marked (firstN i.val) 0 = true := by decide
  exact this ⟨i, h⟩ h0
theorem first_end {i : Nat} (h : i < 14) : marked (firstN i) (i : Int) = false := by
  have : ∀ i : Fin 14, marked (firstN i.val) (i.val : Int) = false := by decide
  exact this ⟨i, h⟩
/-- The clock of a call. -/
def atS (zs : List Int) (j : Nat) : Int := if j < zs.length then zs.getD j 0 % 1000 else j
set_option maxHeartbeats 400000 in
theorem at_any {w : World} {A : Option Addr} {c B cb : Nat} {zs : List Int} (hh : Has w B A (zs.map (Value.int .i64))) (hf : ∀ z ∈ zs, (Lit.int .i64 z).wf = true) (hb : Blk w cb 26 #[.slice A zs.length c]) {j : Nat} :
    Calls Try.prog 11 #[.int .i64 (j : Int), .pointer (some ⟨cb, 0, none⟩)] w fun e w' => e = .returned (.int .i64 (atS zs j)) ∧ w = w' := by
  have hc : w.cell? ⟨cb, 0, none⟩ = some (.slice A zs.length c) := hb.cell 0
  obtain ⟨n, hn⟩ : ∃ n, zs.length = n := ⟨_, rfl⟩
  by_cases hlt : j < n
  · obtain ⟨ad, z, rfl, hab, hcz, hd, hzm⟩ := hh.int (show j < zs.length by omega)
    obtain ⟨b0, b1⟩ := wf_i64 (hf z hzm)
    have HW := Lib.hid (fun w => within_any z 1000 (by omega) (by omega) b0 b1 w)
    have HA := Lib.hid (show atS zs j = z % 1000 by
      unfold atS
      rw [if_pos (by omega)]
      have h1 : zs[j]? = some z := by
        have h2 : (zs.drop j)[0]? = some z := by rw [hd]; rfl
        rwa [List.getElem?_drop, Nat.add_zero] at h2
      rw [List.getD_eq_getElem?_getD, h1]
      rfl)
    rw [hn] at hc
    clear hh hf hb hd hzm b0 b1 hn hab
    go_enter Try.func11, Try.ntmps11
    go_wp2_with fail
    refine (HW.out _).mono ?_
    rintro e w1 ⟨rfl, rfl⟩
    go_wp2_with fail
    go_ret
    exact ⟨by rw [HA.out]; rfl, rfl⟩
  · have HA := Lib.hid (show atS zs j = j by unfold atS; rw [if_neg (by omega)])
    rw [hn] at hc
    clear hh hf hb hn
    go_enter Try.func11, Try.ntmps11
    go_wp2_with fail
    go_ret
    exact ⟨by rw [HA.out]; rfl, rfl⟩
/-- The state: the first i nodes have told it. -/
structure Sn13 (w : World) (tb gb cb F : Nat) (A : Option Addr) (c : Nat) (zs : List Int) (r : Rq) (i : Nat) (v : Value) (wr : World) : Prop where
  rt : Rt w tb v F 2 (oneL (decide (0 < i)) ⟨r, firstN i, if F < i then atS zs F else 0⟩) wr
  box : Blk wr gb 25 #[.int .i64 r.cl, .int .i64 r.tm, .int .i64 r.kd, .int .i64 r.ky, .int .i64 r.vl, .int .i64 r.sg]
  clk : Blk wr cb 26 #[.slice A zs.length c]
section
variable {w wr wz : World} {tb gb cb F i c : Nat} {A : Option Addr} {zs : List Int} {r : Rq} {v : Value}
theorem Sn13.below (h : Sn13 w tb gb cb F A c zs r i v wr) (hb : Below wr.heap.size wr wz) : Sn13 w tb gb cb F A c zs r i v wz := ⟨h.rt.below hb, h.box.below hb h.box.lt, h.clk.below hb h.clk.lt⟩
theorem Sn13.next (h : Sn13 w tb gb cb F A c zs r i v wr) (hi : i < 13) (hp : TbPost wr tb v F 2 (putT F 2 (oneL (decide (0 < i)) ⟨r, firstN i, if F < i then atS zs F else 0⟩) r (i : Nat) (atS zs i)).2 wz) (ha : 0 ≤ r.cl ∧ r.cl < 2 ∧ (0 : Int) ≤ i ∧ (i : Int) < 3 * F + 1) : ∃ v', Sn13 w tb gb cb F A c zs r (i + 1) v' wz := by
  have h1 := hp.far h.rt.tab h.box (by decide) (by decide)
  have h2 := hp.far h.rt.tab h.clk (by decide) (by decide)
  rw [one_put rfl (fun e => by
    have : i = 0 := by simpa using e
    subst this
    rw [if_neg (by omega)]; rfl) ha, mark_new hi (first_get hi)] at hp
  simp only [first_cnt (show i < 14 by omega), first_set hi] at hp
  obtain ⟨v', h3⟩ := h.rt.post hp
  refine ⟨v', ⟨?_, h1, h2⟩⟩
  rw [decide_eq_true (Nat.succ_pos i)]
  by_cases e : (i : Int) = F
  · rw [if_pos e] at h3
    have e2 : i = F := by omega
    rw [if_pos (by omega), ← e2]
    exact e2 ▸ h3
  · rw [if_neg e] at h3
    have e2 : (if F < i then atS zs F else 0) = if F < i + 1 then atS zs F else 0 := by
      by_cases e3 : F < i
      · rw [if_pos e3, if_pos (by omega)]
      · rw [if_neg e3, if_neg (by omega)]
    rw [← e2]
    exact h3
theorem Sn13.since (_h : Sn13 w tb gb cb F A c zs r (i + 1) v wr) (hi : i < 13) : sinceT F (oneL (decide (0 < i + 1)) ⟨r, firstN (i + 1), if F < i + 1 then atS zs F else 0⟩) r = if F ≤ i then (atS zs F, true) else (0, false) := by
  rw [decide_eq_true (Nat.succ_pos i), one_since rfl]
  have h1 : isReady (F : Int) ⟨r, firstN (i + 1), if F < i + 1 then atS zs F else 0⟩ = decide (F ≤ i) := by
    unfold isReady
    rw [first_cnt (by omega)]
    exact decide_eq_decide.2 (by omega)
  rw [h1]
  by_cases e : F ≤ i
  · rw [if_pos (decide_eq_true e), if_pos e, if_pos (by omega)]
  · rw [if_neg (by simpa using e), if_neg e]
theorem Sn13.ready (_h : Sn13 w tb gb cb F A c zs r (i + 1) v wr) (hi : i < 13) : (readyT F (oneL (decide (0 < i + 1)) ⟨r, firstN (i + 1), if F < i + 1 then atS zs F else 0⟩)).length = if F ≤ i then 1 else 0 := by
  rw [decide_eq_true (Nat.succ_pos i)]
  have h1 : isReady (F : Int) ⟨r, firstN (i + 1), if F < i + 1 then atS zs F else 0⟩ = decide (F ≤ i) := by
    unfold isReady
    rw [first_cnt (by omega)]
    exact decide_eq_decide.2 (by omega)
  unfold readyT oneL
  by_cases e : F ≤ i <;> simp [h1, e, rqs]
end
theorem since_other {f : Int} {y : Tr} {s : Rq} (h : y.rq ≠ s) : sinceT f (oneL true y) s = (0, false) := by
  have h1 : had (oneL true y) s = false := by unfold had rqs oneL; simp [Ne.symm h]
  unfold sinceT
  rw [h1]; rfl
theorem has_other {y : Tr} {s : Rq} (h : y.rq ≠ s) (nd : Int) : hasT (oneL true y) s nd = false := by
  have h1 : had (oneL true y) s = false := by unfold had rqs oneL; simp [Ne.symm h]
  unfold hasT
  rw [h1]; rfl
theorem has_one {y : Tr} (nd : Int) : hasT (oneL true y) y.rq nd = marked y.bs nd := by
  have h1 : had (oneL true y) y.rq = true := by unfold had rqs oneL; simp
  have h3 : rowOf (oneL true y) y.rq = y := by show (if y.rq = y.rq then y else rowOf [] y.rq) = y; rw [if_pos rfl]
  unfold hasT
  rw [h1, h3]; rfl
set_option maxRecDepth 100000 in
set_option maxHeartbeats 4000000 in
theorem propSince_walk (a0 : Int) (r0 : Rq) (A : Option Addr) (c : Nat) (zs : List Int) (w : World) (w0 : (Lit.int .i64 a0).wf = true) (w1 : r0.Fits) (w2 : IsList .i64 w A zs c) :
    Calls Try.prog 3 #[.int .i64 a0, .agg #[.int .i64 r0.cl, .int .i64 r0.tm, .int .i64 r0.kd, .int .i64 r0.ky, .int .i64 r0.vl, .int .i64 r0.sg], .slice A zs.length c] w fun e w' => e = .returned (.bool true) ∧ Below w.heap.size w w' := by
  have hmf : ∀ (fn : Fn) (first cap : Array Value) (w : World), (Instr.makeFunc fn first cap).run Try.prog w = .ok (.func fn first cap) w := fun _ _ _ _ => rfl
  obtain ⟨b0, b1⟩ := wf_i64 w0
  obtain ⟨b2, b3⟩ := wf_i64 w1.cl
  have HTm := Lib.hid (wf_i64 w1.tm)
  have HW4 := Lib.hid (fun w => within_any a0 4 (by omega) (by omega) b0 b1 w)
  have HW2 := Lib.hid (fun w => within_any r0.cl 2 (by omega) (by omega) b2 b3 w)
  have hf1 : 0 ≤ a0 % 4 ∧ a0 % 4 < 4 := ⟨Int.emod_nonneg _ (by omega), Int.emod_lt_of_pos _ (by omega)⟩
  have hc1 : 0 ≤ r0.cl % 2 ∧ r0.cl % 2 < 2 := ⟨Int.emod_nonneg _ (by omega), Int.emod_lt_of_pos _ (by omega)⟩
  obtain ⟨ocl, tm, kd, ky, vl, sg⟩ := r0
  simp only at HW2 hc1 HTm ⊢
  obtain ⟨q, hq⟩ : ∃ q : Int, a0 % 4 = q := ⟨_, rfl⟩
  obtain ⟨p, hp⟩ : ∃ p : Int, ocl % 2 = p := ⟨_, rfl⟩
  rw [hq] at HW4 hf1
  rw [hp] at HW2 hc1
  obtain ⟨F, hF⟩ : ∃ F : Nat, 1 + q = (F : Int) := ⟨(1 + q).toNat, by omega⟩
  have hF1 : 1 ≤ F ∧ F ≤ 4 := by omega
  have HL := Lib.hid w2
  clear w0 w1 w2 b0 b1 b2 b3 hq hp
  obtain ⟨r, rfl, rfl, rfl, rfl, rfl, rfl⟩ : ∃ r : Rq, p = r.cl ∧ tm = r.tm ∧ kd = r.kd ∧ ky = r.ky ∧ vl = r.vl ∧ sg = r.sg := ⟨⟨p, tm, kd, ky, vl, sg⟩, rfl, rfl, rfl, rfl, rfl, rfl⟩
  obtain ⟨n, hn⟩ : ∃ n, zs.length = n := ⟨_, rfl⟩
  have HN := Lib.hid hn
  simp only [hn]
  have HM := Lib.hid (show n ≤ maxLen by rw [← hn]; exact Nat.le_trans HL.out.le HL.out.most)
  clear hn
  go_enter Try.func3, Try.ntmps3
  go_wp2_with fail
  refine (HW4.out _).mono ?_
  rintro e wa ⟨rfl, rfl⟩
  go_wp2_with fail
  refine (HW2.out _).mono ?_
  rintro e wa ⟨rfl, rfl⟩
  go_wp2_with fail
  have HB1 := Lib.hid (show Below w.heap.size w ((w.alloc (.cells #[.int .i64 r.cl, .int .i64 r.tm, .int .i64 r.kd, .int .i64 r.ky, .int .i64 r.vl, .int .i64 r.sg] 25)).alloc (.cells #[.slice A n c] 26)) from ((Below.refl _ _).alloc (Nat.le_refl _) _).alloc (by simp) _)
  refine (rt_new (f := F) (n := 2) (by omega) (by omega) (by omega) (by omega) w _ HB1.out).mono ?_
  rintro e w2 ⟨tb, rfl, hR, hbN, -⟩
  have HBox := Lib.hid (((Blk.new w 25 #[.int .i64 r.cl, .int .i64 r.tm, .int .i64 r.kd, .int .i64 r.ky, .int .i64 r.vl, .int .i64 r.sg]).alloc (.cells #[.slice A n c] 26)).below hbN (by simp; omega))
  have HClk := Lib.hid ((Blk.new1 w (.cells #[.int .i64 r.cl, .int .i64 r.tm, .int .i64 r.kd, .int .i64 r.ky, .int .i64 r.vl, .int .i64 r.sg] 25) 26 #[.slice A n c]).below hbN (by simp))
  have HS0 := Lib.hid (show Sn13 w tb w.heap.size (w.heap.size + 1) F A c zs r 0 (.slice none 0 0) w2 from ⟨hR, HBox.out, by rw [HN.out]; exact HClk.out⟩)
  clear hR hbN HBox HClk HB1 hF
  go_wp2_with fail
  go_loopw [10] (fun xi wr => ∃ (i : Nat) (v : Value), xi = .int .i64 i ∧ i ≤ 3 * F + 1 ∧ Hid (Sn13 w tb w.heap.size (w.heap.size + 1) F A c zs r i v wr)) (fun xi _ => 3 * F + 1 - (intOf xi).toNat)
  case atStart => exact ⟨0, _, rfl, Nat.zero_le _, HS0⟩
  case round =>
    obtain ⟨i, v, rfl, hi, HS⟩ := hrel
    by_cases hlt : i < 3 * F + 1
    · have hi13 : i < 13 := by omega
      have HArg := Lib.hid (show 0 ≤ r.cl ∧ r.cl < 2 ∧ (0 : Int) ≤ i ∧ (i : Int) < 3 * F + 1 from ⟨hc1.1, hc1.2, by omega, by omega⟩)
      have HAt := Lib.hid (at_any (w := wr.drew) (cb := w.heap.size + 1) (j := i) (HS.out.rt.has HL.out.has) HL.out.fits HS.out.clk)
      have HS1 := Lib.hid (HS.out.below (wz := wr.drew) ⟨rfl, rfl, rfl, Nat.le_refl _, fun _ _ => rfl⟩)
      have HPut := Lib.hid ((pput_any HS1.out.rt.tab r i (atS zs i)).mono (R' := fun e w' => ∃ b1 b2 e3, e = .returned (.tuple #[.bool b1, .bool b2, .int .i64 e3]) ∧ TbPost wr.drew tb v F 2 (putT F 2 (oneL (decide (0 < i)) ⟨r, firstN i, if F < i then atS zs F else 0⟩) r (i : Nat) (atS zs i)).2 w') fun _ _ he => ⟨_, _, _, he.1, he.2⟩)
      have e0 := HS1.out.box.cell 0
      have e1 := HS1.out.box.cell 1
      have e2 := HS1.out.box.cell 2
      have e3 := HS1.out.box.cell 3
      have e4 := HS1.out.box.cell 4
      have e5 := HS1.out.box.cell 5
      simp only [List.getElem?_toArray, List.getElem?_cons_zero, List.getElem?_cons_succ] at e0 e1 e2 e3 e4 e5
      obtain ⟨ai, hai⟩ : ∃ ai, atS zs i = ai := ⟨_, rfl⟩
      rw [hai] at HAt HPut
      have HAI := Lib.hid hai
      have HFar := Lib.hid (fun (wz : World) (hp : TbPost wr.drew tb v F 2 (putT F 2 (oneL (decide (0 < i)) ⟨r, firstN i, if F < i then atS zs F else 0⟩) r (i : Nat) ai).2 wz) => show (wz.cell? ⟨w.heap.size, 0, none⟩ = some (.int .i64 r.cl) ∧ wz.cell? ⟨w.heap.size, 1, none⟩ = some (.int .i64 r.tm) ∧ wz.cell? ⟨w.heap.size, 2, none⟩ = some (.int .i64 r.kd) ∧ wz.cell? ⟨w.heap.size, 3, none⟩ = some (.int .i64 r.ky) ∧ wz.cell? ⟨w.heap.size, 4, none⟩ = some (.int .i64 r.vl) ∧ wz.cell? ⟨w.heap.size, 5, none⟩ = some (.int .i64 r.sg)) from by
        have hb := hp.far HS1.out.rt.tab HS1.out.box (by decide) (by decide)
        exact ⟨hb.cell 0, hb.cell 1, hb.cell 2, hb.cell 3, hb.cell 4, hb.cell 5⟩)
      have HNext := Lib.hid (fun (wz : World) (hp : TbPost wr.drew tb v F 2 (putT F 2 (oneL (decide (0 < i)) ⟨r, firstN i, if F < i then atS zs F else 0⟩) r (i : Nat) ai).2 wz) => HS1.out.next hi13 (by rw [hai]; exact hp) HArg.out)
      clear hai
      have hlt9 : (i : Int) < 3 * (F : Int) + 1 := by omega
      go_wp2_with fail
      go_region_held3 (fun w' => w'.cell? ⟨w.heap.size, 0, none⟩ = some (.int .i64 r.cl) ∧ w'.cell? ⟨w.heap.size, 1, none⟩ = some (.int .i64 r.tm) ∧ w'.cell? ⟨w.heap.size, 2, none⟩ = some (.int .i64 r.kd) ∧ w'.cell? ⟨w.heap.size, 3, none⟩ = some (.int .i64 r.ky) ∧ w'.cell? ⟨w.heap.size, 4, none⟩ = some (.int .i64 r.vl) ∧ w'.cell? ⟨w.heap.size, 5, none⟩ = some (.int .i64 r.sg)) (first | exact ⟨e0, e1, e2, e3, e4, e5⟩ | exact hq2 | go_keep)
        (first | (go_at_call 11; refine HAt.out.mono ?_; rintro e w3 ⟨rfl, rfl⟩)
               | (go_at_call 12; refine HPut.out.mono ?_; rintro e w3 ⟨p1, p2, p3, rfl, hp⟩; have HP := Lib.hid hp; clear hp; have hq2 := HFar.out _ HP.out))
      obtain ⟨v3, hS3⟩ := HNext.out _ HP.out
      have HS3 := Lib.hid hS3
      clear HP hq2 hS3 e0 e1 e2 e3 e4 e5 HNext HFar HS1 HS HAt HPut
      have e0 := HS3.out.box.cell 0
      have e1 := HS3.out.box.cell 1
      have e2 := HS3.out.box.cell 2
      have e3 := HS3.out.box.cell 3
      have e4 := HS3.out.box.cell 4
      have e5 := HS3.out.box.cell 5
      simp only [List.getElem?_toArray, List.getElem?_cons_zero, List.getElem?_cons_succ] at e0 e1 e2 e3 e4 e5
      go_wp2_with fail
      refine (psince_any HS3.out.rt.tab r).mono ?_
      rintro e w5 ⟨rfl, hb5⟩
      rw [HS3.out.since hi13]
      have HS5 := Lib.hid (HS3.out.below hb5)
      clear hb5 e0 e1 e2 e3 e4 e5
      have HAF := Lib.hid (at_any (w := w5) (cb := w.heap.size + 1) (j := F) (HS5.out.rt.has HL.out.has) HL.out.fits HS5.out.clk)
      have HLn := Lib.hid (HS5.out.ready hi13)
      by_cases hFi : F ≤ i
      · rw [if_pos hFi] at HLn ⊢
        have g1 : decide ((F : Int) ≤ (i : Int)) = true := decide_eq_true (by omega)
        have g2 : decide (F ≤ i) = true := decide_eq_true hFi
        go_wp2_with fail
        refine HAF.out.mono ?_
        rintro e w6 ⟨rfl, rfl⟩
        go_wp2_with fail
        refine (preadies_any HS5.out.rt.tab).mono ?_
        rintro e w7 ⟨v7, rfl, ho7, hb7⟩
        obtain ⟨A7, c7, rfl, -, -⟩ := own_slice ho7
        rw [HLn.out]
        have HS7 := Lib.hid (HS5.out.below hb7)
        clear ho7 hb7
        go_wp2_with fail
        go_roundw
        case rel => exact ⟨i + 1, v3, by go_num, by omega, HS7⟩
        case measure => simp [intOf]; omega
      · rw [if_neg hFi] at HLn ⊢
        have g1 : decide ((F : Int) ≤ (i : Int)) = false := decide_eq_false (by omega)
        have g2 : decide (F ≤ i) = false := decide_eq_false hFi
        go_wp2_with fail
        refine (preadies_any HS5.out.rt.tab).mono ?_
        rintro e w7 ⟨v7, rfl, ho7, hb7⟩
        obtain ⟨A7, c7, rfl, -, -⟩ := own_slice ho7
        rw [HLn.out]
        have HS7 := Lib.hid (HS5.out.below hb7)
        clear ho7 hb7
        go_wp2_with fail
        go_roundw
        case rel => exact ⟨i + 1, v3, by go_num, by omega, HS7⟩
        case measure => simp [intOf]; omega
    · obtain rfl : i = 3 * F + 1 := by omega
      have hlt9 : decide (((3 * F + 1 : Nat) : Int) < 3 * (F : Int) + 1) = false := decide_eq_false (by omega)
      obtain ⟨T, hT⟩ : ∃ T, wrap64 (r.tm + 1) = T := ⟨_, rfl⟩
      have hT2 : IntKind.i64.wrap (r.tm + 1) = T := by have := HTm.out; rw [← hT, IntKind.wrap_i64]; unfold wrap64; omega
      have HTne := Lib.hid (show T ≠ r.tm by have := HTm.out; rw [← hT]; unfold wrap64; omega)
      have HSn := Lib.hid (fun (kd ky vl sg cl : Int) => show r ≠ (⟨cl, T, kd, ky, vl, sg⟩ : Rq) from fun e => HTne.out (by rw [e]))
      have HM14 := Lib.hid (show 3 * F + 1 < 14 by omega)
      have HF1 := Lib.hid hF1
      have hd := decide_eq_true (Nat.succ_pos (3 * F))
      obtain ⟨y, hy⟩ : ∃ y : Tr, (⟨r, firstN (3 * F + 1), if F < 3 * F + 1 then atS zs F else 0⟩ : Tr) = y := ⟨_, rfl⟩
      have HYr := Lib.hid (show y.rq = r by rw [← hy])
      have HYb := Lib.hid (show y.bs = firstN (3 * F + 1) by rw [← hy])
      have HRt := HS.out.rt
      rw [hd, hy] at HRt
      have HRt1 := Lib.hid HRt
      clear HRt hd hy
      have e0 := HS.out.box.cell 0
      have e1 := HS.out.box.cell 1
      have e2 := HS.out.box.cell 2
      have e3 := HS.out.box.cell 3
      have e4 := HS.out.box.cell 4
      have e5 := HS.out.box.cell 5
      simp only [List.getElem?_toArray, List.getElem?_cons_zero, List.getElem?_cons_succ] at e0 e1 e2 e3 e4 e5
      obtain ⟨gt, hgt⟩ : ∃ g, wr.heap.size = g := ⟨_, rfl⟩
      have HSB := Lib.hid (Blk.new wr 25 #[.int .i64 r.cl, .int .i64 T, .int .i64 r.kd, .int .i64 r.ky, .int .i64 r.vl, .int .i64 r.sg])
      have HRa := Lib.hid (HRt1.out.below (wz := wr.alloc (.cells #[.int .i64 r.cl, .int .i64 T, .int .i64 r.kd, .int .i64 r.ky, .int .i64 r.vl, .int .i64 r.sg] 25)) ((Below.refl _ _).alloc (Nat.le_refl _) _))
      have HBx := Lib.hid (HS.out.box.alloc (.cells #[.int .i64 r.cl, .int .i64 T, .int .i64 r.kd, .int .i64 r.ky, .int .i64 r.vl, .int .i64 r.sg] 25))
      have HSi := Lib.hid (psince_any HRa.out.tab ⟨r.cl, T, r.kd, r.ky, r.vl, r.sg⟩)
      rw [since_other (by rw [HYr.out]; exact HSn.out _ _ _ _ _)] at HSi
      rw [hgt] at HSB
      clear HS
      go_wp2_with fail
      refine HSi.out.mono ?_
      rintro e w5 ⟨rfl, hb5⟩
      have HR5 := Lib.hid (HRa.out.below hb5)
      have HBx5 := Lib.hid (HBx.out.below hb5 HBx.out.lt)
      have HSB5 := Lib.hid (HSB.out.below hb5 HSB.out.lt)
      clear hb5 e0 e1 e2 e3 e4 e5
      have s0 := HSB5.out.cell 0
      have s1 := HSB5.out.cell 1
      have s2 := HSB5.out.cell 2
      have s3 := HSB5.out.cell 3
      have s4 := HSB5.out.cell 4
      have s5 := HSB5.out.cell 5
      simp only [List.getElem?_toArray, List.getElem?_cons_zero, List.getElem?_cons_succ] at s0 s1 s2 s3 s4 s5
      have HH1 := Lib.hid (phas_any HR5.out.tab ⟨r.cl, T, r.kd, r.ky, r.vl, r.sg⟩ 0)
      rw [has_other (by rw [HYr.out]; exact HSn.out _ _ _ _ _)] at HH1
      go_wp2_with fail
      refine HH1.out.mono ?_
      rintro e w6 ⟨rfl, hb6⟩
      have HRt6 := Lib.hid (HR5.out.below hb6)
      have HBx6 := Lib.hid (HBx5.out.below hb6 HBx5.out.lt)
      clear hb6 s0 s1 s2 s3 s4 s5
      have e0 := HBx6.out.cell 0
      have e1 := HBx6.out.cell 1
      have e2 := HBx6.out.cell 2
      have e3 := HBx6.out.cell 3
      have e4 := HBx6.out.cell 4
      have e5 := HBx6.out.cell 5
      simp only [List.getElem?_toArray, List.getElem?_cons_zero, List.getElem?_cons_succ] at e0 e1 e2 e3 e4 e5
      have HH2 := Lib.hid (phas_any HRt6.out.tab r 0)
      rw [show hasT (oneL true y) r 0 = true by
        have := has_one (y := y) 0
        rw [HYr.out, HYb.out] at this
        rw [this]
        exact first_zero HM14.out (Nat.succ_pos _)] at HH2
      go_wp2_with fail
      refine HH2.out.mono ?_
      rintro e w7 ⟨rfl, hb7⟩
      have HR7 := Lib.hid (HRt6.out.below hb7)
      have HBx7 := Lib.hid (HBx6.out.below hb7 HBx6.out.lt)
      clear hb7 e0 e1 e2 e3 e4 e5
      have e0 := HBx7.out.cell 0
      have e1 := HBx7.out.cell 1
      have e2 := HBx7.out.cell 2
      have e3 := HBx7.out.cell 3
      have e4 := HBx7.out.cell 4
      have e5 := HBx7.out.cell 5
      simp only [List.getElem?_toArray, List.getElem?_cons_zero, List.getElem?_cons_succ] at e0 e1 e2 e3 e4 e5
      have HH3 := Lib.hid (phas_any HR7.out.tab r (3 * (F : Int) + 1))
      rw [show hasT (oneL true y) r (3 * (F : Int) + 1) = false by
        have := has_one (y := y) (3 * (F : Int) + 1)
        rw [HYr.out, HYb.out] at this
        rw [this]
        exact first_end HM14.out] at HH3
      go_wp2_with fail
      refine HH3.out.mono ?_
      rintro e w8 ⟨rfl, hb8⟩
      have HR8 := Lib.hid (HR7.out.below hb8)
      clear hb8 e0 e1 e2 e3 e4 e5
      have HW := Lib.hid (wakes13_any w8)
      go_wp2_with fail
      refine HW.out.mono ?_
      rintro e w9 ⟨rfl, hb9⟩
      have HR9 := Lib.hid (HR8.out.below hb9)
      go_wp2_with fail
      go_ret
      exact ⟨rfl, HR9.out.low⟩
end Go.Proofs.Ytbpefdnlldpjiaa
