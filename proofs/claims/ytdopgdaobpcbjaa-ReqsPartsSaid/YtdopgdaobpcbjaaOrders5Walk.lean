/- The walk of ReqsOrders: it returns true for any requests. (Asks for reqs' contracts as ReqLaws.) -/
import Derived.Test.YtdopgdaobpcbjaaValid5Walk
import Derived.Test.YtdopgdaobpcbjaaRows5Walk
namespace Go.Proofs.Ytdopgdaobpcbjaa
open Go.RowKit

/-- The cells of two requests of two rows, where these stand. -/
theorem two_cells {w : World} {B1 B2 : Nat} {a1 a2 : Addr} {l m : List Rq} {i k : Nat} {x y : Rq} (h1 : Has w B1 (some a1) (reqCells l)) (h2 : Has w B2 (some a2) (reqCells m)) (hx : l[i]? = some x) (hy : m[k]? = some y) :
    w.cell? (a1.add (i * 6)) = some (.int .i64 x.cl) ∧ w.cell? ⟨(a1.add (i * 6)).block, (a1.add (i * 6)).off + 1, none⟩ = some (.int .i64 x.tm) ∧ w.cell? ⟨(a1.add (i * 6)).block, (a1.add (i * 6)).off + 2, none⟩ = some (.int .i64 x.kd) ∧ w.cell? ⟨(a1.add (i * 6)).block, (a1.add (i * 6)).off + 3, none⟩ = some (.int .i64 x.ky) ∧ w.cell? ⟨(a1.add (i * 6)).block, (a1.add (i * 6)).off + 4, none⟩ = some (.int .i64 x.vl) ∧ w.cell? ⟨(a1.add (i * 6)).block, (a1.add (i * 6)).off + 5, none⟩ = some (.int .i64 x.sg) ∧ w.cell? (a2.add (k * 6)) = some (.int .i64 y.cl) ∧ w.cell? ⟨(a2.add (k * 6)).block, (a2.add (k * 6)).off + 1, none⟩ = some (.int .i64 y.tm) ∧ w.cell? ⟨(a2.add (k * 6)).block, (a2.add (k * 6)).off + 2, none⟩ = some (.int .i64 y.kd) ∧ w.cell? ⟨(a2.add (k * 6)).block, (a2.add (k * 6)).off + 3, none⟩ = some (.int .i64 y.ky) ∧ w.cell? ⟨(a2.add (k * 6)).block, (a2.add (k * 6)).off + 4, none⟩ = some (.int .i64 y.vl) ∧ w.cell? ⟨(a2.add (k * 6)).block, (a2.add (k * 6)).off + 5, none⟩ = some (.int .i64 y.sg) := by
  obtain ⟨hi, ex⟩ := List.getElem?_eq_some_iff.1 hx
  obtain ⟨hk, ey⟩ := List.getElem?_eq_some_iff.1 hy
  obtain ⟨_, he, _, c0, c1, c2, c3, c4, c5⟩ := h1.req hi
  cases he
  obtain ⟨_, he, _, d0, d1, d2, d3, d4, d5⟩ := h2.req hk
  cases he
  rw [ex] at c0 c1 c2 c3 c4 c5
  rw [ey] at d0 d1 d2 d3 d4 d5
  exact ⟨c0, c1, c2, c3, c4, c5, d0, d1, d2, d3, d4, d5⟩

theorem reqCells_set : ∀ (l : List Rq) (k : Nat) (v : Rq), (((((((reqCells l).set (k * 6) (.int .i64 v.cl)).set (k * 6 + 1) (.int .i64 v.tm)).set (k * 6 + 2) (.int .i64 v.kd)).set (k * 6 + 3) (.int .i64 v.ky)).set (k * 6 + 4) (.int .i64 v.vl)).set (k * 6 + 5) (.int .i64 v.sg)) = reqCells (l.set k v)
  | [], k, v => by simp [reqCells]
  | x :: l, 0, v => rfl
  | x :: l, k + 1, v => by
    have := reqCells_set l k v
    rw [show (k + 1) * 6 = k * 6 + 1 + 1 + 1 + 1 + 1 + 1 by omega]
    show Value.int .i64 x.cl :: Value.int .i64 x.tm :: Value.int .i64 x.kd :: Value.int .i64 x.ky :: Value.int .i64 x.vl :: Value.int .i64 x.sg :: (((((((reqCells l).set (k * 6) (.int .i64 v.cl)).set (k * 6 + 1) (.int .i64 v.tm)).set (k * 6 + 2) (.int .i64 v.kd)).set (k * 6 + 3) (.int .i64 v.ky)).set (k * 6 + 4) (.int .i64 v.vl)).set (k * 6 + 5) (.int .i64 v.sg)) = _
    rw [this]
    rfl
theorem zero_own {wr : World} {B gl n c : Nat} {ls : List Rq} (h : wr.ownsRow B 34 6 (.slice (some ⟨gl, 0, none⟩) n c) n (reqCells ls)) (i : Nat) :
    (((((((wr).setCell ⟨gl, i * 6, none⟩ (.int .i64 0)).setCell ⟨gl, i * 6 + 1, none⟩ (.int .i64 0)).setCell ⟨gl, i * 6 + 2, none⟩ (.int .i64 0)).setCell ⟨gl, i * 6 + 3, none⟩ (.int .i64 0)).setCell ⟨gl, i * 6 + 4, none⟩ (.int .i64 0)).setCell ⟨gl, i * 6 + 5, none⟩ (.int .i64 0)).ownsRow B 34 6 (.slice (some ⟨gl, 0, none⟩) n c) n (reqCells (ls.set i zeroR)) := by
  have k := ((((((h.stored (i * 6) (.int .i64 0)).1.stored (i * 6 + 1) (.int .i64 0)).1.stored (i * 6 + 2) (.int .i64 0)).1.stored (i * 6 + 3) (.int .i64 0)).1.stored (i * 6 + 4) (.int .i64 0)).1.stored (i * 6 + 5) (.int .i64 0)).1
  rw [← reqCells_set]
  exact k
theorem zero_low {wr w2 : World} {B gl : Nat} (h : Below B w2 wr) (hg : B ≤ gl) (i : Nat) : Below B w2 (((((((wr).setCell ⟨gl, i * 6, none⟩ (.int .i64 0)).setCell ⟨gl, i * 6 + 1, none⟩ (.int .i64 0)).setCell ⟨gl, i * 6 + 2, none⟩ (.int .i64 0)).setCell ⟨gl, i * 6 + 3, none⟩ (.int .i64 0)).setCell ⟨gl, i * 6 + 4, none⟩ (.int .i64 0)).setCell ⟨gl, i * 6 + 5, none⟩ (.int .i64 0)) :=
  (((((h.setCell (p := ⟨gl, i * 6, none⟩) hg _).setCell (p := ⟨gl, i * 6 + 1, none⟩) hg _).setCell (p := ⟨gl, i * 6 + 2, none⟩) hg _).setCell (p := ⟨gl, i * 6 + 3, none⟩) hg _).setCell (p := ⟨gl, i * 6 + 4, none⟩) hg _).setCell (p := ⟨gl, i * 6 + 5, none⟩) hg _
theorem same_reqs_n {A A' : Option Addr} {c c' n n' B : Nat} {zs ys : List Rq} {w : World} (hn : zs.length = n) (hn' : ys.length = n') (hl : n ≤ 9223372036854775806) (h1 : Has w B A (reqCells zs)) (h2 : Has w B A' (reqCells ys)) :
    Calls Try.prog 29 #[.slice A n c, .slice A' n' c'] w fun e w' => e = .returned (.bool (sameL zs ys)) ∧ ∃ nq, w' = w.drewN nq := by
  subst hn
  subst hn'
  exact same_reqs A A' c c' zs ys B w hl h1 h2
set_option maxHeartbeats 4000000 in
set_option maxRecDepth 100000 in
theorem reqsOrders_walk (M : ReqLaws) (A : Option Addr) (c : Nat) (zs : List Rq) (A2 : Option Addr) (c2 : Nat) (ys : List Rq) (r : Rq) (w : World) (w0 : IsReqs w A zs c) (w1 : IsReqs w A2 ys c2) :
    Calls Try.prog 7 #[.slice A zs.length c, .slice A2 ys.length c2, .agg #[.int .i64 r.cl, .int .i64 r.tm, .int .i64 r.kd, .int .i64 r.ky, .int .i64 r.vl, .int .i64 r.sg]] w fun e w' => e = .returned (.bool true) ∧ Below w.heap.size w w' := by
  have HM := Lib.hid M
  have HA := Lib.hid w0.has
  have HB := Lib.hid w1.has
  have HMa := Lib.hid (Nat.le_trans w0.le w0.most)
  have HMb := Lib.hid (Nat.le_trans w1.le w1.most)
  have HNa := Lib.hid w0.nil
  have HBx := Lib.hid (fun (cs : Array Value) => show Below w.heap.size w (w.alloc (.cells cs 34)) from (Below.refl _ _).alloc (Nat.le_refl _) _)
  clear M w0 w1
  by_cases hm : 40 < zs.length ∨ 40 < ys.length
  · have h1 := HMa.out
    have h2 := HMb.out
    unfold maxLen at h1 h2
    rcases (show 40 < zs.length ∨ (zs.length ≤ 40 ∧ 40 < ys.length) by omega) with h3 | ⟨h3, h4⟩
    all_goals
      clear hm
      go_enter Try.func7, Try.ntmps7
      go_wp2_with fail
      refine (wakes5_any HM.out _).mono ?_
      rintro e w1 ⟨rfl, hb1⟩
      have HB1 := Lib.hid ((HBx.out _).trans (hb1.mono (HBx.out _).size))
      clear hb1
      go_wp2_with fail
      go_ret
      exact ⟨rfl, HB1.out⟩
  · have hm1 : zs.length ≤ 40 := by omega
    have hm2 : ys.length ≤ 40 := by omega
    clear hm
    go_enter Try.func7, Try.ntmps7
    go_wp2_with fail
    have HX1 := Lib.hid (show Bx1 w.heap.size r (w.alloc (.cells #[.int .i64 r.cl, .int .i64 r.tm, .int .i64 r.kd, .int .i64 r.ky, .int .i64 r.vl, .int .i64 r.sg] 34)) from Blk.new _ _ _)
    have HL1 := Lib.hid (HBx.out #[.int .i64 r.cl, .int .i64 r.tm, .int .i64 r.kd, .int .i64 r.ky, .int .i64 r.vl, .int .i64 r.sg])
    obtain ⟨w1, hw1⟩ : ∃ w1, w.alloc (.cells #[.int .i64 r.cl, .int .i64 r.tm, .int .i64 r.kd, .int .i64 r.ky, .int .i64 r.vl, .int .i64 r.sg] 34) = w1 := ⟨_, rfl⟩
    rw [hw1] at HX1 HL1 ⊢
    clear hw1 HBx
    obtain ⟨g, hg⟩ : ∃ g, w.heap.size = g := ⟨_, rfl⟩
    have HG := Lib.hid hg
    rw [hg] at HX1 ⊢
    clear hg
    have HA1 := Lib.hid ((HA.out.below HL1.out (Nat.le_refl _)).more HL1.out.size)
    have HB1 := Lib.hid ((HB.out.below HL1.out (Nat.le_refl _)).more HL1.out.size)
    refine (copy_reqs A c zs.length _ zs w1 rfl (by omega) HA1.out HNa.out).mono ?_
    rintro e w2 ⟨v, rfl, ho2, hb2⟩
    obtain ⟨Ax, cx, rfl, hcx, _⟩ := own_slice ho2
    have HX2 := Lib.hid (has_rows ho2)
    have HS2 := Lib.hid (HX1.out.below hb2)
    have HA2 := Lib.hid ((HA1.out.below hb2 (Nat.le_refl _)).more hb2.size)
    have HB2 := Lib.hid ((HB1.out.below hb2 (Nat.le_refl _)).more hb2.size)
    have HL2 := Lib.hid (HL1.out.trans (hb2.mono HL1.out.size))
    clear ho2 hb2 HX1 HL1 HA1 HB1
    go_wp2_with fail
    refine (HM.out.order (c := cx) HX2.out rfl (by omega)).mono ?_
    rintro e w3 ⟨v, rfl, ho3, hb3⟩
    obtain ⟨Al, cl, rfl, hcl, _⟩ := own_slice ho3
    obtain ⟨xs, hxs⟩ : ∃ xs, orderS zs = xs := ⟨_, rfl⟩
    have HLn := Lib.hid (show xs.length ≤ 40 by rw [← hxs]; exact Nat.le_trans (orderS_len zs) hm1)
    have HXs := Lib.hid hxs
    rw [hxs] at ho3 hcl ⊢
    have HO3 := Lib.hid ho3
    have HW3 := Lib.hid hb3
    clear hxs hb3 ho3
    have HS3 := Lib.hid (HS2.out.below HW3.out)
    have hln := HLn.out
    obtain ⟨n, hn⟩ : ∃ n, xs.length = n := ⟨_, rfl⟩
    rw [hn] at hcl hln ⊢
    have HN := Lib.hid hn
    clear hn
    go_wp2_with fail
    have HA3 := Lib.hid (HA2.out.below HW3.out (Nat.le_refl _))
    have HB3 := Lib.hid (HB2.out.below HW3.out (Nat.le_refl _))
    have HX3 := Lib.hid (HX2.out.below HW3.out (Nat.le_refl _))
    have HOl := Lib.hid (has_rows HO3.out)
    have HOr := Lib.hid (fun (wx : World) (hx : Has wx w2.heap.size A (reqCells zs)) => rorder_any A c zs w2.heap.size wx (by omega) hx)
    rw [HXs.out, HN.out] at HOr
    obtain ⟨s, hs⟩ : ∃ s, sameL zs ys = s := ⟨_, rfl⟩
    obtain ⟨h, hh⟩ : ∃ h, hasB zs r = h := ⟨_, rfl⟩
    have HRs := Lib.hid (fun (wx : World) h1 h2 => rsame_any A A2 c c2 zs ys w2.heap.size wx (by omega) h1 h2)
    have HRh := Lib.hid (fun (wx : World) h1 => rhas_any A c zs r w2.heap.size wx (by omega) h1)
    have HQs := Lib.hid (fun (wx : World) (h1 : Has wx w2.heap.size A (reqCells zs)) (h2 : Has wx w2.heap.size A2 (reqCells ys)) => HM.out.same (c := c) (c' := c2) h1 rfl (by omega) h2 rfl)
    have HQx := Lib.hid (fun (wx : World) (h1 : Has wx w2.heap.size A (reqCells zs)) (h2 : Has wx w2.heap.size Ax (reqCells zs)) => HM.out.same (c := c) (c' := cx) h1 rfl (by omega) h2 rfl)
    have HQh := Lib.hid (fun (wx : World) (h1 : Has wx w2.heap.size A (reqCells zs)) => HM.out.has (c := c) h1 rfl (by omega) r)
    have HKs := Lib.hid (fun (wx : World) (A4 : Option Addr) (c4 B : Nat) (h1 : Has wx B Al (reqCells xs)) (h2 : Has wx B A4 (reqCells xs)) => same_reqs_n (c := cl) (c' := c4) HN.out HN.out (by omega) h1 h2)
    rw [hs] at HRs HQs
    rw [hh] at HRh HQh
    rw [sameL_self] at HQx HKs
    have hc0 := HS3.out.cells1
    have hq0 : Below w3.heap.size w3 w3.drew := ⟨rfl, rfl, rfl, Nat.le_refl _, fun _ _ => rfl⟩
    have hsz := HW3.out.size
    clear hs hh
    go_region_held3 (fun w' => w'.cell? ⟨g, 0, none⟩ = some (.int .i64 r.cl) ∧ w'.cell? ⟨g, 1, none⟩ = some (.int .i64 r.tm) ∧ w'.cell? ⟨g, 2, none⟩ = some (.int .i64 r.kd) ∧ w'.cell? ⟨g, 3, none⟩ = some (.int .i64 r.ky) ∧ w'.cell? ⟨g, 4, none⟩ = some (.int .i64 r.vl) ∧ w'.cell? ⟨g, 5, none⟩ = some (.int .i64 r.sg))
      (first | exact hc0 | exact hca | exact hca2 | exact hcb | exact hcb2 | exact hcc | exact hcd | exact hce | go_keep)
      (first | (go_at_call 22; (with_reducible refine (HOr.out _ ?_).mono ?_); exact HA3.out.drew; rintro e wa ⟨v4, rfl, ho4, hba⟩; obtain ⟨A4, c4, rfl, _, _⟩ := own_slice ho4; have hqa : Below w3.heap.size w3 wa := hq0.trans hba; have hca := (HS3.out.below hqa).cells1)
             | (go_at_call 29; have k1 := (HOl.out.below hqa (Nat.le_refl _)).more hqa.size; have k2 := has_rows ho4; (with_reducible refine (HKs.out _ _ _ _ k1 k2).mono ?_); rintro e wa2 ⟨rfl, n1, rfl⟩; have hqa2 : Below w3.heap.size w3 (wa.drewN n1) := hqa.trans ⟨rfl, rfl, rfl, Nat.le_refl _, fun _ _ => rfl⟩; have hca2 := (HS3.out.below hqa2).cells1)
             | (go_at_call 30; have k1 := HA3.out.below hqa2 hsz; have k2 := HB3.out.below hqa2 hsz; (with_reducible refine (HQs.out _ k1 k2).mono ?_); rintro e wb ⟨rfl, hbb⟩; have hqb := hqa2.trans (hbb.mono hqa2.size); have hcb := (HS3.out.below hqb).cells1)
             | (go_at_call 31; have k1 := HA3.out.below hqb hsz; have k2 := HB3.out.below hqb hsz; (with_reducible refine (HRs.out _ k1 k2).mono ?_); rintro e wb2 ⟨rfl, n2, rfl⟩; have hqb2 : Below w3.heap.size w3 (wb.drewN n2) := hqb.trans ⟨rfl, rfl, rfl, Nat.le_refl _, fun _ _ => rfl⟩; have hcb2 := (HS3.out.below hqb2).cells1)
             | (go_at_call 30; have k1 := HA3.out.below hqb2 hsz; have k2 := HX3.out.below hqb2 hsz; (with_reducible refine (HQx.out _ k1 k2).mono ?_); rintro e wc ⟨rfl, hbc⟩; have hqc := hqb2.trans (hbc.mono hqb2.size); have hcc := (HS3.out.below hqc).cells1)
             | (go_at_call 32; have k1 := HA3.out.below hqc hsz; (with_reducible refine (HQh.out _ k1).mono ?_); rintro e wd ⟨rfl, hbd⟩; have hqd := hqc.trans (hbd.mono hqc.size); have hcd := (HS3.out.below hqd).cells1)
             | (go_at_call 33; have k1 := HA3.out.below hqd hsz; (with_reducible refine (HRh.out _ k1).mono ?_); rintro e we ⟨rfl, hbe⟩; have hqe := hqd.trans (hbe.mono hqd.size); have hce := (HS3.out.below hqe).cells1))
    have HOe := Lib.hid (show we.ownsRow w2.heap.size 34 6 (.slice Al n cl) n (reqCells xs) from by
      have k := below_own HO3.out hqe (Nat.le_refl _)
      rwa [HN.out] at k)
    have HLe := Lib.hid (show Below w2.heap.size w2 we from HW3.out.trans (hqe.mono hsz))
    clear hq0 hqa hqa2 hqb hqb2 hqc hqd hqe hc0 hca hca2 hcb hcb2 hcc hcd hce hba hbb hbc hbd hbe ho4 HOr HRs HRh HQs HQx HQh HKs HO3 HOl HA3 HB3 HX3 HS3
    go_wp2_with fail
    go_loopw [56] (fun y wr => ∃ (i : Nat) (ls : List Rq), y = .int .i64 i ∧ i ≤ n ∧ Hid (ls.length = n) ∧ Hid (wr.ownsRow w2.heap.size 34 6 (.slice Al n cl) n (reqCells ls)) ∧ Hid (Below w2.heap.size w2 wr)) (fun y _ => n - (intOf y).toNat)
    case atStart => exact ⟨0, xs, rfl, Nat.zero_le _, HN.out, HOe.out, HLe.out⟩
    case round =>
      obtain ⟨i, ls, rfl, hi, HLl, HOw, HW⟩ := hrel
      by_cases hlt : i < n
      · obtain ⟨gl, cap, hv, hgb, hglt⟩ := HOw.out.form (by omega)
        injection hv with hv1 hv2 hv3
        subst hv1
        subst hv3
        have hil : i < ls.length := by rw [HLl.out]; exact hlt
        obtain ⟨ad, he, _, d0, d1, d2, d3, d4, d5⟩ := (has_rows HOw.out).req hil
        cases he
        rw [addr_at] at d0 d1 d2 d3 d4 d5
        have f := HOw.out.frozenAt
        have f0 := f (i * 6)
        have f1 := f (i * 6 + 1)
        have f2 := f (i * 6 + 2)
        have f3 := f (i * 6 + 3)
        have f4 := f (i * 6 + 4)
        have f5 := f (i * 6 + 5)
        have HG2 := Lib.hid hgb
        clear f hgb
        go_wp2_with fail
        exact ⟨⟨i + 1, ls.set i zeroR, by go_num, by omega, (show _ = _ by rw [List.length_set]; exact HLl.out), zero_own HOw.out i, zero_low HW.out HG2.out i⟩, by simp [intOf]; omega⟩
      · have HWe := Lib.hid HW.out
        clear HW HOw HLl HOe HLe
        go_wp2_with fail
        go_loopw [66] (fun y wr => ∃ i : Nat, y = .int .i64 i ∧ i ≤ zs.length ∧ Hid (Below w2.heap.size w2 wr)) (fun y _ => zs.length - (intOf y).toNat)
        case atStart => exact ⟨0, rfl, Nat.zero_le _, HWe.out⟩
        case round =>
          obtain ⟨i, rfl, hi2, HW⟩ := hrel
          by_cases hlt2 : i < zs.length
          · have HWi := Lib.hid HW.out
            clear HW HWe
            go_wp2_with fail
            go_loopw [71] (fun y wr => ∃ k : Nat, y = .int .i64 k ∧ k ≤ ys.length ∧ Hid (Below w2.heap.size w2 wr)) (fun y _ => ys.length - (intOf y).toNat)
            case atStart => exact ⟨0, rfl, Nat.zero_le _, HWi.out⟩
            case round =>
              obtain ⟨k, rfl, hk, HW⟩ := hrel
              by_cases hlt3 : k < ys.length
              · have h1 := HA2.out.below HW.out (Nat.le_refl _)
                have h2 := HB2.out.below HW.out (Nat.le_refl _)
                obtain ⟨a1, rfl, _⟩ := h1.req hlt2
                obtain ⟨a2, rfl, _⟩ := h2.req hlt3
                obtain ⟨x, hx⟩ : ∃ x, zs[i] = x := ⟨_, rfl⟩
                obtain ⟨y, hy⟩ : ∃ y, ys[k] = y := ⟨_, rfl⟩
                have HXi := Lib.hid (show zs[i]? = some x by rw [List.getElem?_eq_getElem hlt2, hx])
                have HYk := Lib.hid (show ys[k]? = some y by rw [List.getElem?_eq_getElem hlt3, hy])
                have HC1 := Lib.hid (fun w => HM.out.compare x y w)
                have HC2 := Lib.hid (fun w => rcompare_any x y w)
                obtain ⟨z, hz⟩ : ∃ z, cmpR x y = z := ⟨_, rfl⟩
                rw [hz] at HC1 HC2
                have hc0 := two_cells h1 h2 HXi.out HYk.out
                have hq0 : Below w2.heap.size w2 wr.drew := HW.out.trans ⟨rfl, rfl, rfl, Nat.le_refl _, fun _ _ => rfl⟩
                clear hx hy hz h1 h2
                go_wp2_with fail
                go_region_held3 (fun w' => w'.cell? (a1.add (i * 6)) = some (.int .i64 x.cl) ∧ w'.cell? ⟨(a1.add (i * 6)).block, (a1.add (i * 6)).off + 1, none⟩ = some (.int .i64 x.tm) ∧ w'.cell? ⟨(a1.add (i * 6)).block, (a1.add (i * 6)).off + 2, none⟩ = some (.int .i64 x.kd) ∧ w'.cell? ⟨(a1.add (i * 6)).block, (a1.add (i * 6)).off + 3, none⟩ = some (.int .i64 x.ky) ∧ w'.cell? ⟨(a1.add (i * 6)).block, (a1.add (i * 6)).off + 4, none⟩ = some (.int .i64 x.vl) ∧ w'.cell? ⟨(a1.add (i * 6)).block, (a1.add (i * 6)).off + 5, none⟩ = some (.int .i64 x.sg) ∧ w'.cell? (a2.add (k * 6)) = some (.int .i64 y.cl) ∧ w'.cell? ⟨(a2.add (k * 6)).block, (a2.add (k * 6)).off + 1, none⟩ = some (.int .i64 y.tm) ∧ w'.cell? ⟨(a2.add (k * 6)).block, (a2.add (k * 6)).off + 2, none⟩ = some (.int .i64 y.kd) ∧ w'.cell? ⟨(a2.add (k * 6)).block, (a2.add (k * 6)).off + 3, none⟩ = some (.int .i64 y.ky) ∧ w'.cell? ⟨(a2.add (k * 6)).block, (a2.add (k * 6)).off + 4, none⟩ = some (.int .i64 y.vl) ∧ w'.cell? ⟨(a2.add (k * 6)).block, (a2.add (k * 6)).off + 5, none⟩ = some (.int .i64 y.sg))
                  (first | exact hc0 | exact hc1 | exact hc2 | go_keep)
                  (first | (go_at_call 34; (with_reducible refine (HC1.out _).mono ?_); rintro e wa ⟨rfl, hba⟩; have hqa : Below w2.heap.size w2 wa := hq0.trans (Below.mono hba hq0.size); have hc1 := two_cells (HA2.out.below hqa (Nat.le_refl _)) (HB2.out.below hqa (Nat.le_refl _)) HXi.out HYk.out)
                         | (go_at_call 35; (with_reducible refine (HC2.out _).mono ?_); rintro e wb ⟨rfl, hbb⟩; have hqb : Below w2.heap.size w2 wb := hqa.trans (Below.mono hbb hqa.size); have hc2 := two_cells (HA2.out.below hqb (Nat.le_refl _)) (HB2.out.below hqb (Nat.le_refl _)) HXi.out HYk.out))
                have HWb := Lib.hid hqb
                clear hq0 hqa hqb hba hbb hc0 hc1 hc2
                go_wp2_with fail
                go_roundw
                case rel => exact ⟨k + 1, by go_num, by omega, HWb.out⟩
                case measure => simp [intOf]; omega
              · have HWk := Lib.hid HW.out
                clear HW
                go_wp2_with fail
                go_roundw
                case rel => exact ⟨i + 1, by go_num, by omega, HWk.out⟩
                case measure => simp [intOf]; omega
          · have HX3 := HX2.out.below HW.out (Nat.le_refl _)
            have HA3 := HA2.out.below HW.out (Nat.le_refl _)
            have HSm := Lib.hid (same_reqs Ax A cx c zs zs _ wr (by omega) HX3 HA3)
            rw [sameL_self] at HSm
            clear HX3 HA3
            go_wp2_with fail
            refine HSm.out.mono ?_
            rintro e w6 ⟨rfl, m, rfl⟩
            have HW6 := Lib.hid (show Below w2.heap.size w2 (wr.drewN m) from HW.out.trans ⟨rfl, rfl, rfl, Nat.le_refl _, fun _ _ => rfl⟩)
            go_wp2_with fail
            refine (wakes5_any HM.out _).mono ?_
            rintro e w7 ⟨rfl, hb7⟩
            have HW7 := Lib.hid (HW6.out.trans (hb7.mono HW6.out.size))
            clear hb7
            go_wp2_with fail
            go_ret
            exact ⟨rfl, HL2.out.trans (HW7.out.mono HL2.out.size)⟩
end Go.Proofs.Ytdopgdaobpcbjaa
