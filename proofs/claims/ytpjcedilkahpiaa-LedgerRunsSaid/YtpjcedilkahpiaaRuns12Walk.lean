/- The walk of LedgerRuns. -/
import Derived.Test.YtpjcedilkahpiaaPair12
import Derived.Test.YtpjcedilkahpiaaCopyReqs
namespace Go.Proofs.Ytpjcedilkahpiaa
open Go.RowKit
set_option linter.unusedSimpArgs false

def Rq.zero : Rq := ⟨0, 0, 0, 0, 0, 0⟩
def En.zero : En := ⟨Rq.zero, 0⟩
theorem reqs_put {l : List Rq} {k : Nat} (h : k < l.length) (r : Rq) : (reqCells l).take (k * 6) ++ r.cells ++ (reqCells l).drop (k * 6 + 6) = reqCells (l.set k r) := by
  induction l generalizing k with
  | nil => simp at h
  | cons e l ih =>
    cases k with
    | zero => rfl
    | succ k =>
      have := ih (k := k) (by simpa using h)
      show (e.cells ++ reqCells l).take ((k + 1) * 6) ++ _ ++ (e.cells ++ reqCells l).drop ((k + 1) * 6 + 6) = e.cells ++ reqCells (l.set k r)
      have h6 : e.cells.length = 6 := rfl
      rw [← this, show (k + 1) * 6 = 6 + k * 6 by omega, show 6 + k * 6 + 6 = 6 + (k * 6 + 6) by omega, ← h6, List.take_length_add_append, List.drop_length_add_append]
      simp
theorem ents_put {l : List En} {k : Nat} (h : k < l.length) (r : En) : (entCells l).take (k * 7) ++ r.cells ++ (entCells l).drop (k * 7 + 7) = entCells (l.set k r) := by
  induction l generalizing k with
  | nil => simp at h
  | cons e l ih =>
    cases k with
    | zero => rfl
    | succ k =>
      have := ih (k := k) (by simpa using h)
      show (e.cells ++ entCells l).take ((k + 1) * 7) ++ _ ++ (e.cells ++ entCells l).drop ((k + 1) * 7 + 7) = e.cells ++ entCells (l.set k r)
      have h7 : e.cells.length = 7 := rfl
      rw [← this, show (k + 1) * 7 = 7 + k * 7 by omega, show 7 + k * 7 + 7 = 7 + (k * 7 + 7) by omega, ← h7, List.take_length_add_append, List.drop_length_add_append]
      simp
/-- While a row of requests is made empty. -/
structure RZr (w1 : World) (B : Nat) (A : Option Addr) (n c : Nat) (zs : List Rq) (wr : World) : Prop where
  row : wr.ownsRow B 34 6 (.slice A n c) n (reqCells zs)
  len : zs.length = n
  tn : Turn (fun j => ∃ ad, A = some ad ∧ ad.block = j) w1 wr
/-- While a row of entries is made empty. -/
structure RZe (w1 : World) (B : Nat) (A : Option Addr) (n c : Nat) (zs : List En) (wr : World) : Prop where
  row : wr.ownsRow B 36 7 (.slice A n c) n (entCells zs)
  len : zs.length = n
  tn : Turn (fun j => ∃ ad, A = some ad ∧ ad.block = j) w1 wr
theorem Sc.new_ok (n : Nat) : (Sc.new n).1.Ok := Kv.Ok.new
theorem own_some {w : World} {b n s c : Nat} {e : TypeId} {A : Option Addr} {xs : List Value} (h : w.ownsRow b e s (.slice A n c) n xs) (hn : 0 < n) : ∃ g, A = some ⟨g, 0, none⟩ ∧ b ≤ g := by
  rcases h.2 with ⟨e, _⟩ | ⟨g', cap, cur, e, hg, _⟩
  · injection e with e1 e2 e3
    omega
  · injection e with e1
    exact ⟨g', e1, hg⟩
theorem zC_new (n : Nat) : zC (List.replicate n (0, 0)) none 0 0 = #[.int .i64 0, .int .i64 0, .int .i64 0, .int .i64 0, .int .i64 0, .int .i64 0, .int .i64 0, .int .i64 0, .slice none 0 0] := by
  unfold zC
  rw [atL_new, atL_new, atL_new, atL_new]
theorem app_set0 (a b : Value) (S Z : Array Value) : (#[a] ++ S ++ Z).setIfInBounds 0 b = #[b] ++ S ++ Z := by
  rw [Array.setIfInBounds_append_left (by rw [Array.size_append]; show 0 < 1 + S.size; omega), Array.setIfInBounds_append_left (by show 0 < 1; omega)]
  rfl
theorem led_zeros (w : World) : (zeroValue 59).run Try.prog w = .ok (.agg (ledCells 0 Kv.new #[.int .i64 0, .int .i64 0, .int .i64 0, .int .i64 0, .int .i64 0, .int .i64 0, .int .i64 0, .int .i64 0, .slice none 0 0])) w := by kernel_rfl
/-- The document's ledger, new. -/
theorem led_made (n : Nat) : ∃ C0 C1 : Array Value, (∀ w, (zeroValue 59).run Try.prog w = .ok (.agg C0) w) ∧ C0 ≠ #[] ∧ C0.setIfInBounds 0 (.int .i64 (n : Int)) = C1 ∧ C1 = ledCells n (Sc.new n).1 (zC (Sc.new n).2 none 0 0) := by
  refine ⟨_, _, led_zeros, fun h => ?_, rfl, ?_⟩
  · have := congrArg Array.size h
    rw [led_size] at this
    cases this
  · unfold ledCells Sc.new
    rw [app_set0, zC_new]
theorem rl_made {w : World} {n : Nat} (h4 : n ≤ 4) (C1 : Array Value) (h : C1 = ledCells n (Sc.new n).1 (zC (Sc.new n).2 none 0 0)) : Rl (w.alloc (.cells C1 59)) ⟨w.heap.size, none, 0⟩ (Sc.new n) [] := by
  subst h
  refine ⟨?_, Has.nil _ _ _, fun _ => rfl, Nat.le_refl _, by rw [Sc.new_len]; exact h4, Kv.Ok.new, fun ad e => by cases e⟩
  rw [Sc.new_len]
  exact Blk.new w _ _
set_option maxRecDepth 100000 in
set_option maxHeartbeats 8000000 in
theorem ledgerRuns_walk (a : Int) (A : Option Addr) (c : Nat) (l : List Bt) (w : World) (w0 : (Lit.int .i64 a).wf = true) (w1 : IsBats w A l c) :
    Calls Try.prog 5 #[.int .i64 a, .slice A l.length c] w fun e w' => e = .returned (.bool true) ∧ Below w.heap.size w w' := by
  by_cases hin : 1 ≤ a ∧ a ≤ 4
  · obtain ⟨n, rfl⟩ := Int.eq_ofNat_of_zero_le (show 0 ≤ a by omega)
    have hn1 : 1 ≤ n := by omega
    have hn4 : n ≤ 4 := by omega
    have HX := Lib.hid (lx_new hn1 hn4 w w (Below.refl _ _))
    have HC := Lib.hid (cut_any w1)
    have HBs := Lib.hid w1.cut
    have hNl := allS_cut_len l
    have hLl : (cutS l).length ≤ 20 := by unfold cutS; rw [List.length_map, List.length_take]; omega
    obtain ⟨L, hL⟩ : ∃ L, cutS l = L := ⟨_, rfl⟩
    rw [hL] at HC HBs hNl hLl
    obtain ⟨m, hm⟩ : ∃ m, L.length = m := ⟨_, rfl⟩
    rw [hm] at HC hLl
    have HM := Lib.hid hm
    have HNl := Lib.hid hNl
    have HN4 := Lib.hid hn4
    have g1 : decide ((n : Int) < 1) = false := decide_eq_false (by omega)
    have g2 : decide ((n : Int) > 4) = false := decide_eq_false (by omega)
    have g3 : ¬ (n : Int) < 1 := by omega
    have g4 : ¬ (4 : Int) < (n : Int) := by omega
    clear w0 w1 hin hL hm hNl
    go_enter Try.func5, Try.ntmps5
    go_wp2_with fail
    refine HX.out.mono ?_
    rintro e w2 ⟨bx, rfl, hx, hxN, hxz, hb2⟩
    obtain ⟨C0, C1, hz, hne, hset, hC1⟩ := led_made n
    have HR3 := Lib.hid (rl_made (w := w2) HN4.out C1 hC1)
    have hb3 : Below w2.heap.size w2 (w2.alloc (.cells C1 59)) := (Below.refl _ _).alloc (Nat.le_refl _) _
    have HX3 := Lib.hid (hx.below hb3)
    have HXN := Lib.hid hxN
    have HLt := Lib.hid (fun j (hj : bx.zone j) => hx.lg.lt hj)
    have HSz := Lib.hid (show w.heap.size ≤ w2.heap.size from hx.low.size)
    have HC3 := Lib.hid (HC.out _ (HX3.out.low))
    obtain ⟨w3, hw3⟩ : ∃ w3, w2.alloc (.cells C1 59) = w3 := ⟨_, rfl⟩
    obtain ⟨H, hH⟩ : ∃ H, w2.heap.size = H := ⟨_, rfl⟩
    rw [hw3] at HR3 HX3 HC3
    rw [hH] at HR3 HLt HSz
    have HW3 := Lib.hid hw3
    have HHh := Lib.hid hH
    clear hC1 hx hxN hxz hb2 hb3 HC HX hw3 hH
    go_upto_region 7 with fail
    rw [HW3.out, HHh.out]
    clear hz hne hset
    go_wp2_with fail
    refine HC3.out.mono ?_
    rintro e w4 ⟨v, rfl, ho, hb4⟩
    obtain ⟨A1, c1, rfl, -, -⟩ := own_slice ho
    have HS0 := Lib.hid (show Pr w w4 bx ⟨H, none, 0⟩ (Sc.new n) [] L 0 bx ⟨H, none, 0⟩ w4 from Pr.start (HX3.out.below hb4) (HR3.out.below hb4) (fun j hj hr => by
        rcases hr with e | ⟨ad, e, _⟩
        · have e : j = H := e; have := HLt.out j hj; omega
        · cases e) (fun j hr => by
        rcases hr with e | ⟨ad, e, _⟩
        · have e : j = H := e; have := HSz.out; omega
        · cases e))
    have HB4 := Lib.hid (has_rows ho)
    have HO4 := Lib.hid (own_at ho)
    have H3z := Lib.hid (show ∀ j, bx.zone j ∨ j = H → j < w3.heap.size from fun j hj => by
      rcases hj with e | e
      · exact HX3.out.lg.lt e
      · subst e; exact HR3.out.blk.lt)
    have H4z := Lib.hid (show w.heap.size ≤ w4.heap.size from Nat.le_trans HX3.out.low.size hb4.size)
    obtain ⟨lb, hlb⟩ : ∃ lb, bx.lb = lb := ⟨_, rfl⟩
    have HLb := Lib.hid hlb
    rw [hlb]
    clear ho hb4 HC3 hlb
    go_wp2_with fail
    go_loopw [46] (fun x wr => ∃ (k : Nat) (b : Lb) (r : Rb), x = .int .i64 k ∧ k ≤ m ∧ Hid (Pr w w4 bx ⟨H, none, 0⟩ (Sc.new n) [] L k b r wr)) (fun x _ => m - (intOf x).toNat)
    case atStart => exact ⟨0, bx, _, rfl, Nat.zero_le _, HS0⟩
    case round =>
      obtain ⟨k, b, r, rfl, hk, HS⟩ := hrel
      obtain ⟨wo, hwo⟩ : ∃ wo, wo = wr := ⟨_, rfl⟩
      subst hwo
      by_cases hlt : k < m
      · have hkl : k < L.length := by rw [HM.out]; exact hlt
        have hB := has_apart HB4.out HS.out.tn (fun ad e _ hz => by have h1 := HO4.out ad e; have h2 := H3z.out _ hz; omega)
        obtain ⟨ad, rfl, _, c0⟩ := hB.bat hkl
        obtain ⟨⟨xA, xc, xl⟩, hx⟩ : ∃ x, L[k] = x := ⟨_, rfl⟩
        have hxm : (⟨xA, xc, xl⟩ : Bt) ∈ L := hx ▸ List.getElem_mem hkl
        rw [hx] at c0
        have hxl : xl = L[k].l := by rw [hx]
        subst hxl
        have hAw : Has w w.heap.size xA (reqCells L[k].l) := HBs.out.has _ hxm
        have HAw := Lib.hid hAw
        have hAx : Has wo w.heap.size xA (reqCells L[k].l) := hAw.below HS.out.lx.low (Nat.le_refl _)
        have hcx : L[k].l.length ≤ xc ∧ (xA = none → xc = 0) := HBs.out.cap _ hxm
        have c1' : wo.cell? (ad.add k) = some (.slice xA L[k].l.length xc) := c0
        clear c0
        obtain ⟨p, hp⟩ : ∃ p, L[k].l.length = p := ⟨_, rfl⟩
        rw [hp] at c1' hcx
        have hle : (allS (L.take k)).length + p ≤ 160 := by
          have := allS_le (l := L) (k + 1)
          rw [allS_take hkl, List.length_append] at this
          rw [← hp]
          exact Nat.le_trans this HNl.out
        have HX := Lib.hid hx
        have HP := Lib.hid hp
        have HAx := Lib.hid hAx
        have HLe := Lib.hid hle
        have KC := Lib.hid (mcopy_reqs xA xc p w.heap.size L[k].l wo hp (by omega) hAx hcx.2)
        have HHas := Lib.hid hB.tight
        clear hB hx hxm hAx hcx hp hAw
        go_wp2_with fail
        refine KC.out.mono ?_
        rintro e w5 ⟨v, rfl, ho5, hb5⟩
        obtain ⟨A5, c5, rfl, -, -⟩ := own_slice ho5
        have HS5 := Lib.hid (HS.out.below hb5)
        have HB5 := Lib.hid hb5
        have hN5 : b.N + p ≤ 1000 := by have h1 := HS.out.n; have h2 := HXN.out; omega
        have KX := Lib.hid (lx_run HS5.out.lx (c := c5) (has_rows ho5) (fun ad e _ hz => by have h1 := own_at ho5 ad e; have h2 := HS.out.lx.lg.lt hz; omega) HP.out (by omega))
        rw [HS5.out.sb, HLb.out] at KX
        have HO5 := Lib.hid ho5
        have HSz5 := Lib.hid hb5.size
        have HN5 := Lib.hid hN5
        clear ho5 hb5 KC hN5
        go_wp2_with fail
        refine KX.out.mono ?_
        rintro e w6 ⟨v6, b', rfl, hR⟩
        obtain ⟨A6, c6, rfl, -, -⟩ := own_slice hR.row
        have hH := HS5.out.half hR
        have hrb : r.rb = H := hH.sr
        have hB6 := has_apart (HHas.out.below (show Below wo.heap.size wo w5 from HB5.out) (Nat.le_refl _)) hR.tn (fun ad e _ hz => by
          have h1 := HO4.out ad e
          rcases HS5.out.zb _ hz with h2 | h2
          · have h3 := H3z.out _ (Or.inl h2); omega
          · omega)
        obtain ⟨ad', e, _, c0⟩ := hB6.bat hkl
        cases e
        rw [HX.out] at c0
        have c1' : w6.cell? (ad.add k) = some (.slice xA L[k].l.length xc) := c0
        rw [HP.out] at c1'
        clear c0
        have hrw : w.heap.size ≤ r.rb := hH.rup _ (Or.inl rfl)
        have hElen : ([] ++ (Sc.new n).ran (allS (L.take k))).length ≤ 100000 := Nat.le_trans HS5.out.lx.lg.few (by have := HN5.out; omega)
        have hA6 : Has w6 w.heap.size xA (reqCells L[k].l) := HAw.out.below hH.lx.low (Nat.le_refl _)
        have KR := Lib.hid (rrun_any hH.rl hElen (c := xc) hA6 (fun ad e hne hz => by
          subst e
          cases hl : L[k].l with
          | nil => exact hne hl
          | cons q l2 =>
            rw [hl] at hA6
            obtain ⟨ad2, e2, h1, _⟩ := hA6 0 (.int .i64 q.cl) rfl
            cases e2
            omega) HP.out (by have := HLe.out; omega))
        rw [hrb] at KR
        have HH6 := Lib.hid hH
        have HR6 := Lib.hid hR.row
        have HOff := Lib.hid hR.off
        have HZo := Lib.hid hR.zone
        have HRb := Lib.hid hrb
        have HRlt := Lib.hid (show r.rb < wo.heap.size from HS.out.rl.blk.lt)
        have HBlt := Lib.hid (fun j (hj : b.zone j) => HS.out.lx.lg.lt hj)
        have HSz6 := Lib.hid hR.tn.size
        have HRow5 := Lib.hid (hR.tn.own HO5.out (fun i hi hz => by have h1 := (HO5.out.lt i hi).1; have h2 := HBlt.out _ hz; omega))
        clear hH hB6 hrw hElen hA6 hR KX hrb
        go_wp2_with fail
        refine KR.out.mono ?_
        rintro e w7 ⟨v7, A7', c7', rfl, hrl7, hrow7, hA7, hoff7, ht7⟩
        obtain ⟨A7, c7, rfl, -, -⟩ := own_slice hrow7
        have hfull := HH6.out.full hkl (A' := A7') (c' := c7') (HRb.out ▸ hrl7) hA7 (HRb.out ▸ ht7)
        have hrow6 := ht7.own HR6.out (fun i hi hz => by have hz : i = H := hz; have h1 := (HR6.out.lt i hi).1; have h2 := HRlt.out; have h3 := HRb.out; have h4 := HSz5.out; omega)
        have hrow5 := ht7.own HRow5.out (fun i hi hz => by have hz : i = H := hz; have h1 := (HRow5.out.lt i hi).1; have h2 := HRlt.out; have h3 := HRb.out; omega)
        obtain ⟨E7, hE7⟩ : ∃ E7, ((Sc.new n).run (allS (L.take k))).ran L[k].l = E7 := ⟨_, rfl⟩
        rw [hE7] at hrow6 hrow7 ⊢
        have he7 : E7.length ≤ 160 := by rw [← hE7]; exact Nat.le_trans (Sc.ran_len _ _) (by have := HLe.out; have := HP.out; omega)
        have KSm := Lib.hid (same_ents A6 A7 c6 c7 E7 E7 w7.heap.size w7 (by omega) (has_rows hrow6) (has_rows hrow7))
        rw [show sameL E7 E7 = true by simp [sameL]] at KSm
        obtain ⟨e7, hee⟩ : ∃ e, E7.length = e := ⟨_, rfl⟩
        rw [hee] at hrow6 KSm he7 ⊢
        have HE7 := Lib.hid hee
        have HFull := Lib.hid hfull
        have HRow6 := Lib.hid hrow6
        have HRow5' := Lib.hid hrow5
        have HA7 := Lib.hid hA7
        have H5at := Lib.hid (own_at HO5.out)
        have H6at := Lib.hid (own_at HR6.out)
        clear hfull hrow6 hrow5 hrow7 hrl7 hA7 hoff7 ht7 hE7 hee KR HRow5 HH6
        go_wp2_with fail
        refine KSm.out.mono ?_
        rintro e wv ⟨rfl, j, hwv⟩
        have HF8 := Lib.hid (show Pr w w4 bx ⟨H, none, 0⟩ (Sc.new n) [] L (k + 1) b' ⟨r.rb, A7', c7'⟩ wv from hwv ▸ HFull.out.below (below_drewN (Below.refl w7.heap.size w7) j))
        have HZ8 := Lib.hid (show RZr wv wo.heap.size A5 p c5 L[k].l wv from ⟨hwv ▸ (show (w7.drewN j).ownsRow wo.heap.size 34 6 _ p _ from ((Turn.refl (fun _ => False) w7).drewN j).own HRow5'.out (fun _ _ => id)), HP.out, Turn.refl _ _⟩)
        have HE8 := Lib.hid (show RZe wv w5.heap.size A6 e7 c6 E7 wv from ⟨hwv ▸ (show (w7.drewN j).ownsRow w5.heap.size 36 7 _ e7 _ from ((Turn.refl (fun _ => False) w7).drewN j).own HRow6.out (fun _ _ => id)), HE7.out, Turn.refl _ _⟩)
        clear hwv KSm HFull HRow6 HRow5'
        have hpm : p ≤ 160 := by have := HLe.out; omega
        go_wp2_with fail
        go_loopw [68] (fun y wq => ∃ (i : Nat) (zs : List Rq), y = .int .i64 i ∧ i ≤ p ∧ Hid (RZr wv wo.heap.size A5 p c5 zs wq)) (fun y _ => p - (intOf y).toNat)
        case atStart => exact ⟨0, _, rfl, Nat.zero_le _, HZ8⟩
        case round =>
          obtain ⟨i, zs, rfl, hi, HZ⟩ := hrel
          by_cases hip : i < p
          · obtain ⟨g, rfl, hg⟩ := own_some HZ.out.row (by omega)
            have hil : i < zs.length := by rw [HZ.out.len]; exact hip
            obtain ⟨ad, e, -, z0, z1, z2, z3, z4, z5⟩ := (has_rows HZ.out.row).req hil
            cases e
            rw [addr_at] at z0 z1 z2 z3 z4 z5
            obtain ⟨q, hq⟩ : ∃ q, zs[i] = q := ⟨_, rfl⟩
            rw [hq] at z0 z1 z2 z3 z4 z5
            have y0 : wr.cell? ⟨g, i * 6, none⟩ = some (.int .i64 q.cl) := z0
            have y1 : wr.cell? ⟨g, i * 6 + 1, none⟩ = some (.int .i64 q.tm) := z1
            have y2 : wr.cell? ⟨g, i * 6 + 2, none⟩ = some (.int .i64 q.kd) := z2
            have y3 : wr.cell? ⟨g, i * 6 + 3, none⟩ = some (.int .i64 q.ky) := z3
            have y4 : wr.cell? ⟨g, i * 6 + 4, none⟩ = some (.int .i64 q.vl) := z4
            have y5 : wr.cell? ⟨g, i * 6 + 5, none⟩ = some (.int .i64 q.sg) := z5
            have f0 := fun j => HZ.out.row.frozenAt j
            have hz := own_cells HZ.out.row (o := i * 6) (vs := Rq.zero.cells) (by show i * 6 + 6 ≤ _; omega)
            rw [show Rq.zero.cells.length = 6 from rfl, reqs_put hil] at hz
            have HZn := Lib.hid (show RZr wv wo.heap.size (some ⟨g, 0, none⟩) p c5 (zs.set i Rq.zero) (((((((wr).setCell ⟨g, i * 6, none⟩ (.int .i64 0)).setCell ⟨g, i * 6 + 1, none⟩ (.int .i64 0)).setCell ⟨g, i * 6 + 2, none⟩ (.int .i64 0)).setCell ⟨g, i * 6 + 3, none⟩ (.int .i64 0)).setCell ⟨g, i * 6 + 4, none⟩ (.int .i64 0)).setCell ⟨g, i * 6 + 5, none⟩ (.int .i64 0)) from ⟨hz, by rw [List.length_set]; exact HZ.out.len, ((((((HZ.out.tn).set_ ⟨g, i * 6, none⟩ (.int .i64 0) ⟨_, rfl, rfl⟩).set_ ⟨g, i * 6 + 1, none⟩ (.int .i64 0) ⟨_, rfl, rfl⟩).set_ ⟨g, i * 6 + 2, none⟩ (.int .i64 0) ⟨_, rfl, rfl⟩).set_ ⟨g, i * 6 + 3, none⟩ (.int .i64 0) ⟨_, rfl, rfl⟩).set_ ⟨g, i * 6 + 4, none⟩ (.int .i64 0) ⟨_, rfl, rfl⟩).set_ ⟨g, i * 6 + 5, none⟩ (.int .i64 0) ⟨_, rfl, rfl⟩⟩)
            clear hz hq z0 z1 z2 z3 z4 z5
            go_wp2_with fail
            go_roundw
            case rel => exact ⟨i + 1, _, by go_num, by omega, HZn⟩
            case measure => simp [intOf]; omega
          · obtain rfl : i = p := by omega
            have HF9 := Lib.hid (HF8.out.off HZ.out.tn (fun j hj hz => by
                obtain ⟨ad, e, rfl⟩ := hz
                have h1 := H5at.out ad e
                rcases HZo.out _ hj with h2 | h2
                · have := HBlt.out _ h2; omega
                · omega) (fun j hj hz => by
                obtain ⟨ad, e, rfl⟩ := hz
                have h1 := H5at.out ad e
                rcases hj with h2 | ⟨ad2, e2, h2⟩
                · have h2 : ad.block = r.rb := h2
                  have := HRlt.out; omega
                · have := HA7.out ad2 e2; have := HSz6.out; omega) (fun j hz => by
                obtain ⟨ad, e, rfl⟩ := hz
                have h1 := H5at.out ad e
                have h2 := HS.out.tn.size
                omega) H4z.out)
            have HE9 := Lib.hid (show RZe wr w5.heap.size A6 e7 c6 E7 wr from ⟨HZ.out.tn.own HE8.out.row (fun i hi hz => by
                obtain ⟨ad, e, rfl⟩ := hz
                have h1 := H5at.out ad e
                have h2 := (HE8.out.row.lt _ hi).1
                omega), HE8.out.len, Turn.refl _ _⟩)
            obtain ⟨w9, hw9⟩ : ∃ w9, w9 = wr := ⟨_, rfl⟩
            subst hw9
            clear HZ HE8 HF8 HZ8
            go_wp2_with fail
            go_loopw [78] (fun y wq => ∃ (i : Nat) (zs : List En), y = .int .i64 i ∧ i ≤ e7 ∧ Hid (RZe w9 w5.heap.size A6 e7 c6 zs wq)) (fun y _ => e7 - (intOf y).toNat)
            case atStart => exact ⟨0, _, rfl, Nat.zero_le _, HE9⟩
            case round =>
              obtain ⟨i, zs, rfl, hi, HE⟩ := hrel
              by_cases hie : i < e7
              · obtain ⟨g, rfl, hg⟩ := own_some HE.out.row (by omega)
                have hil : i < zs.length := by rw [HE.out.len]; exact hie
                obtain ⟨ad, e, -, z0, z1, z2, z3, z4, z5, z6⟩ := (has_rows HE.out.row).ent hil
                cases e
                rw [addr_at] at z0 z1 z2 z3 z4 z5 z6
                obtain ⟨q, hq⟩ : ∃ q, zs[i] = q := ⟨_, rfl⟩
                rw [hq] at z0 z1 z2 z3 z4 z5 z6
                have y0 : wr.cell? ⟨g, i * 7, none⟩ = some (.int .i64 q.r.cl) := z0
                have y1 : wr.cell? ⟨g, i * 7 + 1, none⟩ = some (.int .i64 q.r.tm) := z1
                have y2 : wr.cell? ⟨g, i * 7 + 2, none⟩ = some (.int .i64 q.r.kd) := z2
                have y3 : wr.cell? ⟨g, i * 7 + 3, none⟩ = some (.int .i64 q.r.ky) := z3
                have y4 : wr.cell? ⟨g, i * 7 + 4, none⟩ = some (.int .i64 q.r.vl) := z4
                have y5 : wr.cell? ⟨g, i * 7 + 5, none⟩ = some (.int .i64 q.r.sg) := z5
                have y6 : wr.cell? ⟨g, i * 7 + 6, none⟩ = some (.int .i64 q.x) := z6
                have f0 := fun j => HE.out.row.frozenAt j
                have hz := own_cells HE.out.row (o := i * 7) (vs := En.zero.cells) (by show i * 7 + 7 ≤ _; omega)
                rw [show En.zero.cells.length = 7 from rfl, ents_put hil] at hz
                have HZn := Lib.hid (show RZe w9 w5.heap.size (some ⟨g, 0, none⟩) e7 c6 (zs.set i En.zero) ((((((((wr).setCell ⟨g, i * 7, none⟩ (.int .i64 0)).setCell ⟨g, i * 7 + 1, none⟩ (.int .i64 0)).setCell ⟨g, i * 7 + 2, none⟩ (.int .i64 0)).setCell ⟨g, i * 7 + 3, none⟩ (.int .i64 0)).setCell ⟨g, i * 7 + 4, none⟩ (.int .i64 0)).setCell ⟨g, i * 7 + 5, none⟩ (.int .i64 0)).setCell ⟨g, i * 7 + 6, none⟩ (.int .i64 0)) from ⟨hz, by rw [List.length_set]; exact HE.out.len, (((((((HE.out.tn).set_ ⟨g, i * 7, none⟩ (.int .i64 0) ⟨_, rfl, rfl⟩).set_ ⟨g, i * 7 + 1, none⟩ (.int .i64 0) ⟨_, rfl, rfl⟩).set_ ⟨g, i * 7 + 2, none⟩ (.int .i64 0) ⟨_, rfl, rfl⟩).set_ ⟨g, i * 7 + 3, none⟩ (.int .i64 0) ⟨_, rfl, rfl⟩).set_ ⟨g, i * 7 + 4, none⟩ (.int .i64 0) ⟨_, rfl, rfl⟩).set_ ⟨g, i * 7 + 5, none⟩ (.int .i64 0) ⟨_, rfl, rfl⟩).set_ ⟨g, i * 7 + 6, none⟩ (.int .i64 0) ⟨_, rfl, rfl⟩⟩)
                clear hz hq z0 z1 z2 z3 z4 z5 z6
                go_wp2_with fail
                go_roundw
                case rel => exact ⟨i + 1, _, by go_num, by omega, HZn⟩
                case measure => simp [intOf]; omega
              · obtain rfl : i = e7 := by omega
                have HF10 := Lib.hid (HF9.out.off HE.out.tn (fun j hj hz => by
                    obtain ⟨ad, e, rfl⟩ := hz
                    subst e
                    exact HOff.out _ rfl hj) (fun j hj hz => by
                    obtain ⟨ad, e, rfl⟩ := hz
                    have h1 := H6at.out ad e
                    rcases hj with h2 | ⟨ad2, e2, h2⟩
                    · have h2 : ad.block = r.rb := h2
                      have := HRlt.out; have := HSz5.out; omega
                    · have := HA7.out ad2 e2; omega) (fun j hz => by
                    obtain ⟨ad, e, rfl⟩ := hz
                    have h1 := H6at.out ad e
                    have h2 := HS.out.tn.size
                    have h3 := HSz5.out
                    omega) H4z.out)
                go_wp2_with fail
                go_roundw
                case rel => exact ⟨k + 1, b', _, by go_num, by omega, HF10⟩
                case measure => simp [intOf]; omega
      · have he : L.take k = L := List.take_of_length_le (by rw [HM.out]; omega)
        have hrb : r.rb = H := HS.out.sr
        have hN : b.N ≤ 100000 := by have h1 := HS.out.n; have h2 := HXN.out; have h3 := HNl.out; rw [he] at h1; omega
        have KR := Lib.hid (right12_any HS.out.lx.lg HS.out.rl hN (Sc.late_run _ (late_new n)))
        rw [HS.out.sb, HLb.out, hrb] at KR
        have HLow := Lib.hid HS.out.lx.low
        clear hrb hN he HS HS0
        go_wp2_with fail
        refine KR.out.mono ?_
        rintro e w6 ⟨rfl, hb6⟩
        go_wp2_with fail
        refine (wakes12_any _).mono ?_
        rintro e w9 ⟨rfl, hb9⟩
        go_wp2_with fail
        go_ret
        have h1 := HLow.out.trans (hb6.mono HLow.out.size)
        exact ⟨rfl, h1.trans (hb9.mono h1.size)⟩
  · have KN := Lib.hid (lnew_out hin w)
    have hc : a < 1 ∨ (1 ≤ a ∧ 4 < a) := by omega
    clear w0 w1 hin
    rcases hc with h | ⟨h, h2⟩
    · have g1 : decide (a < 1) = true := decide_eq_true h
      go_enter Try.func5, Try.ntmps5
      go_wp2_with fail
      refine KN.out.mono ?_
      rintro e wv ⟨rfl, rfl⟩
      go_wp2_with fail
      refine (wakes12_any _).mono ?_
      rintro e w9 ⟨rfl, hb9⟩
      go_wp2_with fail
      go_ret
      exact ⟨rfl, hb9⟩
    · have g1 : decide (a < 1) = false := decide_eq_false (by omega)
      have g2 : decide (a > 4) = true := decide_eq_true h2
      go_enter Try.func5, Try.ntmps5
      go_wp2_with fail
      refine KN.out.mono ?_
      rintro e wv ⟨rfl, rfl⟩
      go_wp2_with fail
      refine (wakes12_any _).mono ?_
      rintro e w9 ⟨rfl, hb9⟩
      go_wp2_with fail
      go_ret
      exact ⟨rfl, hb9⟩
end Go.Proofs.Ytpjcedilkahpiaa
