/- The walk of ReqsSealed: it returns true for any requests. (Asks for reqs' contracts as ReqLaws.) -/
import Derived.Test.YtdopgdaobpcbjaaBoth5
import Derived.Test.YtdopgdaobpcbjaaRows5Walk
namespace Go.Proofs.Ytdopgdaobpcbjaa
open Go.RowKit

theorem one_cells {w : World} {B1 : Nat} {a1 : Addr} {l : List Rq} {i : Nat} {x : Rq} (h1 : Has w B1 (some a1) (reqCells l)) (hx : l[i]? = some x) : w.cell? (a1.add (i * 6)) = some (.int .i64 x.cl) ∧ w.cell? ⟨(a1.add (i * 6)).block, (a1.add (i * 6)).off + 1, none⟩ = some (.int .i64 x.tm) ∧ w.cell? ⟨(a1.add (i * 6)).block, (a1.add (i * 6)).off + 2, none⟩ = some (.int .i64 x.kd) ∧ w.cell? ⟨(a1.add (i * 6)).block, (a1.add (i * 6)).off + 3, none⟩ = some (.int .i64 x.ky) ∧ w.cell? ⟨(a1.add (i * 6)).block, (a1.add (i * 6)).off + 4, none⟩ = some (.int .i64 x.vl) ∧ w.cell? ⟨(a1.add (i * 6)).block, (a1.add (i * 6)).off + 5, none⟩ = some (.int .i64 x.sg) := by
  obtain ⟨hi, ex⟩ := List.getElem?_eq_some_iff.1 hx
  obtain ⟨_, he, _, c0, c1, c2, c3, c4, c5⟩ := h1.req hi
  cases he
  rw [ex] at c0 c1 c2 c3 c4 c5
  exact ⟨c0, c1, c2, c3, c4, c5⟩
theorem has_head {w : World} {B : Nat} {A : Option Addr} {l : List Rq} (h : Has w B A (reqCells l)) (k : Nat) : Has w B A (reqCells (l.take k)) := fun j u hj => by
  rw [reqCells_take, List.getElem?_take] at hj
  split at hj
  · exact h j u hj
  · cases hj
theorem rright_n {R : Nat → Prop} {w : World} {rb : Nat} {L : List Deed} (h : Rf R w rb L) (hnd : L.Nodup) {A : Option Addr} {c k B : Nat} {zs : List Rq} (h1 : Has w B A (reqCells zs)) (hk : zs.length = k) (hl : k ≤ 1000000) (hf : ∀ r ∈ zs, fit r.sg) (most n : Int) :
    Calls Try.prog 25 #[.slice A k c, .int .i64 most, .int .i64 n, .pointer (some ⟨rb, 0, none⟩)] w fun e w' => e = .returned (.bool (rightS zs most n L)) ∧ Below w.heap.size w w' := by
  subst hk
  exact rright_any h hnd A c zs B (by omega) h1 hf most n
set_option maxHeartbeats 4000000 in
set_option maxRecDepth 100000 in
theorem reqsSealed_walk (M : ReqLaws) (A : Option Addr) (c : Nat) (zs : List Rq) (n m : Int) (ord : Bool) (w : World) (w0 : IsReqs w A zs c) (w1 : (Lit.int .i64 n).wf = true) (_w2 : (Lit.int .i64 m).wf = true) :
    Calls Try.prog 5 #[.slice A zs.length c, .int .i64 n, .int .i64 m, .bool ord] w fun e w' => e = .returned (.bool true) ∧ Below w.heap.size w w' := by
  have HM := Lib.hid M
  have HFn := Lib.hid (show fit n from w1)
  have hlm := Nat.le_trans w0.le w0.most
  unfold maxLen at hlm
  have HBt := Lib.hid (both_any A c zs n w w0.has w0.fits)
  clear M w0 w1 _w2
  go_enter Try.func5, Try.ntmps5
  go_wp2_with fail
  refine HBt.out.mono ?_
  rintro e w2 ⟨outs, L, nb, bm, rb, v, R, rfl, hBo, hnd, hLl, hol, hfo⟩
  obtain ⟨Av, cv, rfl, hcv, _⟩ := own_slice hBo.own
  have HNd := Lib.hid hnd
  have HB2 := Lib.hid hBo.low
  have HX2 := Lib.hid (has_rows hBo.own)
  have HN2 := Lib.hid hBo.nt
  have HR2 := Lib.hid hBo.rf
  have HF2 := Lib.hid hfo
  clear hBo hnd hLl hfo HBt
  cases ord
  · obtain ⟨xs, hxs⟩ : ∃ xs, outs = xs := ⟨_, rfl⟩
    rw [hxs] at hcv hol HX2 HF2 ⊢
    obtain ⟨w5, h5⟩ : ∃ w5, w2 = w5 := ⟨_, rfl⟩
    rw [h5] at HX2 HN2 HR2 HB2 ⊢
    obtain ⟨Ax, hAx⟩ : ∃ Ax, Av = Ax := ⟨_, rfl⟩
    rw [hAx] at HX2 ⊢
    obtain ⟨cx, hcxe⟩ : ∃ cx, cv = cx := ⟨_, rfl⟩
    rw [hcxe] at hcv ⊢
    have HX := Lib.hid HX2.out
    have HNt := Lib.hid HN2.out
    have HRf := Lib.hid HR2.out
    have HB5 := Lib.hid HB2.out
    have HFx0 := Lib.hid HF2.out
    have hcx := hcv
    have hxl := hol
    clear hxs h5 hAx hcxe HX2 HN2 HR2 HB2 HF2 hcv hol
    obtain ⟨k0, hk0⟩ : ∃ k0, xs.length = k0 := ⟨_, rfl⟩
    have HN := Lib.hid hk0
    rw [hk0] at hcx hxl
    first | rw [hk0] | skip
    clear hk0
    go_wp2_with fail
    go_loopw [27] (fun y wr => ∃ i : Nat, y = .int .i64 i ∧ i ≤ k0 ∧ Hid (Below w5.heap.size w5 wr)) (fun y _ => k0 - (intOf y).toNat)
    case atStart => exact ⟨0, rfl, Nat.zero_le _, Below.refl _ _⟩
    case round =>
      obtain ⟨i, rfl, hi, HW⟩ := hrel
      by_cases hlt : i < k0
      · have hil : i < xs.length := by rw [HN.out]; exact hlt
        have hh := HX.out.below HW.out (Nat.le_refl _)
        obtain ⟨a1, rfl, _⟩ := hh.req hil
        obtain ⟨x, hx⟩ : ∃ x, xs[i] = x := ⟨_, rfl⟩
        have HXi := Lib.hid (show xs[i]? = some x by rw [List.getElem?_eq_getElem hil, hx])
        have HFx := Lib.hid (show x.Fits from hx ▸ HFx0.out _ (List.getElem_mem hil))
        obtain ⟨s, hs⟩ : ∃ s, sealedS x n L = s := ⟨_, rfl⟩
        have HS1 := Lib.hid (fun (wx : World) (hn : Nt wx nb bm L) => HM.out.sealed hn x HFx.out n HFn.out)
        have HS2 := Lib.hid (fun (wx : World) (hn : Rf R wx rb L) => rsealed_any hn HNd.out x HFx.out.sg n)
        rw [hs] at HS1 HS2
        have hc0 := one_cells hh HXi.out
        have hq0 : Below w5.heap.size w5 wr.drew := HW.out.trans ⟨rfl, rfl, rfl, Nat.le_refl _, fun _ _ => rfl⟩
        clear hx hs hh
        go_wp2_with fail
        go_region_held3 (fun w' => w'.cell? (a1.add (i * 6)) = some (.int .i64 x.cl) ∧ w'.cell? ⟨(a1.add (i * 6)).block, (a1.add (i * 6)).off + 1, none⟩ = some (.int .i64 x.tm) ∧ w'.cell? ⟨(a1.add (i * 6)).block, (a1.add (i * 6)).off + 2, none⟩ = some (.int .i64 x.kd) ∧ w'.cell? ⟨(a1.add (i * 6)).block, (a1.add (i * 6)).off + 3, none⟩ = some (.int .i64 x.ky) ∧ w'.cell? ⟨(a1.add (i * 6)).block, (a1.add (i * 6)).off + 4, none⟩ = some (.int .i64 x.vl) ∧ w'.cell? ⟨(a1.add (i * 6)).block, (a1.add (i * 6)).off + 5, none⟩ = some (.int .i64 x.sg))
          (first | exact hc0 | exact hc1 | exact hc2 | go_keep)
          (first | (go_at_call 23; (with_reducible refine (HS1.out _ ?_).mono ?_); exact HNt.out.below hq0; rintro e wa ⟨rfl, hba⟩; have hqa : Below w5.heap.size w5 wa := hq0.trans (Below.mono hba hq0.size); have hc1 := one_cells (HX.out.below hqa (Nat.le_refl _)) HXi.out)
                 | (go_at_call 24; (with_reducible refine (HS2.out _ ?_).mono ?_); exact HRf.out.below hqa; rintro e wb ⟨rfl, hbb⟩; have hqb : Below w5.heap.size w5 wb := hqa.trans (Below.mono hbb hqa.size); have hc2 := one_cells (HX.out.below hqb (Nat.le_refl _)) HXi.out))
        have HWb := Lib.hid hqb
        clear hq0 hqa hqb hba hbb hc0 hc1 hc2
        go_wp2_with fail
        go_roundw
        case rel => exact ⟨i + 1, by go_num, by omega, HWb.out⟩
        case measure => simp [intOf]; omega
      · have HW1 := Lib.hid HW.out
        clear HW
        go_wp2_with fail
        go_loopw [12] (fun y wr => ∃ k : Nat, y = .int .i64 k ∧ k ≤ k0 + 1 ∧ Hid (Below w5.heap.size w5 wr)) (fun y _ => k0 + 1 - (intOf y).toNat)
        case atStart => exact ⟨0, rfl, Nat.zero_le _, HW1.out⟩
        case round =>
          obtain ⟨k, rfl, hk, HW⟩ := hrel
          by_cases hlt2 : k ≤ k0
          · have R1 := fun (w : World) => slice_head (w := w) Ax (n := k0) (c := cx) (k := k) (by omega)
            have HPl := Lib.hid (show (xs.take k).length = k by rw [List.length_take, HN.out]; omega)
            have HPf := Lib.hid (show ∀ r ∈ xs.take k, r.Fits from fun r hr => HFx0.out r (List.mem_of_mem_take hr))
            obtain ⟨s, hs⟩ : ∃ s, rightS (xs.take k) m n L = s := ⟨_, rfl⟩
            have HS1 := Lib.hid (fun (wx : World) (hn : Nt wx nb bm L) (hx : Has wx w5.heap.size Ax (reqCells (xs.take k))) => HM.out.batch hn (c := cx) hx HPl.out (by omega) HPf.out m n HFn.out)
            have HS2 := Lib.hid (fun (wx : World) (hn : Rf R wx rb L) (hx : Has wx w5.heap.size Ax (reqCells (xs.take k))) => rright_n hn HNd.out (c := cx) hx HPl.out (by omega) (fun r hr => (HPf.out r hr).sg) m n)
            rw [hs] at HS1 HS2
            have hq0 : Below w5.heap.size w5 wr.drew := HW.out.trans ⟨rfl, rfl, rfl, Nat.le_refl _, fun _ _ => rfl⟩
            clear hs
            go_wp2_with fail
            go_region_with (first
              | (go_at_call 13; (with_reducible refine (HS1.out _ ?_ ?_).mono ?_); exact HNt.out.below hq0; exact (has_head HX.out k).below hq0 (Nat.le_refl _); rintro e wa ⟨rfl, hba⟩; have hqa : Below w5.heap.size w5 wa := hq0.trans (Below.mono hba hq0.size))
              | (go_at_call 25; (with_reducible refine (HS2.out _ ?_ ?_).mono ?_); exact HRf.out.below hqa; exact (has_head HX.out k).below hqa (Nat.le_refl _); rintro e wb ⟨rfl, hbb⟩; have hqb : Below w5.heap.size w5 wb := hqa.trans (Below.mono hbb hqa.size)))
            have HWb := Lib.hid hqb
            clear hq0 hqa hqb hba hbb R1
            go_wp2_with fail
            go_roundw
            case rel => exact ⟨k + 1, by go_num, by omega, HWb.out⟩
            case measure => simp [intOf]; omega
          · go_wp2_with fail
            refine (wakes5_any HM.out _).mono ?_
            rintro e w8 ⟨rfl, hb8⟩
            have HW8 := Lib.hid (HW.out.trans (hb8.mono HW.out.size))
            clear hb8
            go_wp2_with fail
            go_ret
            exact ⟨rfl, HB5.out.trans (HW8.out.mono HB5.out.size)⟩
  · have HOr := Lib.hid (rorder_any Av cv outs w2.heap.size w2 (by omega) HX2.out)
    go_wp2_with fail
    refine HOr.out.mono ?_
    rintro e w5 ⟨v, rfl, ho5, hb5⟩
    obtain ⟨Ax, cx, rfl, hcx, _⟩ := own_slice ho5
    obtain ⟨xs, hxs⟩ : ∃ xs, orderS outs = xs := ⟨_, rfl⟩
    have hxl : xs.length ≤ 30 := by rw [← hxs]; exact Nat.le_trans (orderS_len outs) hol
    have HFx0 := Lib.hid (show ∀ r ∈ xs, r.Fits from fun r hr => HF2.out r (((ris_order outs).2 r).1 (by rw [hxs]; exact hr)))
    rw [hxs] at ho5 hcx ⊢
    have HX := Lib.hid (has_rows ho5)
    have HNt := Lib.hid (HN2.out.below hb5)
    have HRf := Lib.hid (HR2.out.below hb5)
    have HB5 := Lib.hid (HB2.out.trans (hb5.mono HB2.out.size))
    clear hxs ho5 hb5 HOr HX2 HN2 HR2 HB2 HF2
    obtain ⟨k0, hk0⟩ : ∃ k0, xs.length = k0 := ⟨_, rfl⟩
    have HN := Lib.hid hk0
    rw [hk0] at hcx hxl
    first | rw [hk0] | skip
    clear hk0
    go_wp2_with fail
    go_loopw [27] (fun y wr => ∃ i : Nat, y = .int .i64 i ∧ i ≤ k0 ∧ Hid (Below w5.heap.size w5 wr)) (fun y _ => k0 - (intOf y).toNat)
    case atStart => exact ⟨0, rfl, Nat.zero_le _, Below.refl _ _⟩
    case round =>
      obtain ⟨i, rfl, hi, HW⟩ := hrel
      by_cases hlt : i < k0
      · have hil : i < xs.length := by rw [HN.out]; exact hlt
        have hh := HX.out.below HW.out (Nat.le_refl _)
        obtain ⟨a1, rfl, _⟩ := hh.req hil
        obtain ⟨x, hx⟩ : ∃ x, xs[i] = x := ⟨_, rfl⟩
        have HXi := Lib.hid (show xs[i]? = some x by rw [List.getElem?_eq_getElem hil, hx])
        have HFx := Lib.hid (show x.Fits from hx ▸ HFx0.out _ (List.getElem_mem hil))
        obtain ⟨s, hs⟩ : ∃ s, sealedS x n L = s := ⟨_, rfl⟩
        have HS1 := Lib.hid (fun (wx : World) (hn : Nt wx nb bm L) => HM.out.sealed hn x HFx.out n HFn.out)
        have HS2 := Lib.hid (fun (wx : World) (hn : Rf R wx rb L) => rsealed_any hn HNd.out x HFx.out.sg n)
        rw [hs] at HS1 HS2
        have hc0 := one_cells hh HXi.out
        have hq0 : Below w5.heap.size w5 wr.drew := HW.out.trans ⟨rfl, rfl, rfl, Nat.le_refl _, fun _ _ => rfl⟩
        clear hx hs hh
        go_wp2_with fail
        go_region_held3 (fun w' => w'.cell? (a1.add (i * 6)) = some (.int .i64 x.cl) ∧ w'.cell? ⟨(a1.add (i * 6)).block, (a1.add (i * 6)).off + 1, none⟩ = some (.int .i64 x.tm) ∧ w'.cell? ⟨(a1.add (i * 6)).block, (a1.add (i * 6)).off + 2, none⟩ = some (.int .i64 x.kd) ∧ w'.cell? ⟨(a1.add (i * 6)).block, (a1.add (i * 6)).off + 3, none⟩ = some (.int .i64 x.ky) ∧ w'.cell? ⟨(a1.add (i * 6)).block, (a1.add (i * 6)).off + 4, none⟩ = some (.int .i64 x.vl) ∧ w'.cell? ⟨(a1.add (i * 6)).block, (a1.add (i * 6)).off + 5, none⟩ = some (.int .i64 x.sg))
          (first | exact hc0 | exact hc1 | exact hc2 | go_keep)
          (first | (go_at_call 23; (with_reducible refine (HS1.out _ ?_).mono ?_); exact HNt.out.below hq0; rintro e wa ⟨rfl, hba⟩; have hqa : Below w5.heap.size w5 wa := hq0.trans (Below.mono hba hq0.size); have hc1 := one_cells (HX.out.below hqa (Nat.le_refl _)) HXi.out)
                 | (go_at_call 24; (with_reducible refine (HS2.out _ ?_).mono ?_); exact HRf.out.below hqa; rintro e wb ⟨rfl, hbb⟩; have hqb : Below w5.heap.size w5 wb := hqa.trans (Below.mono hbb hqa.size); have hc2 := one_cells (HX.out.below hqb (Nat.le_refl _)) HXi.out))
        have HWb := Lib.hid hqb
        clear hq0 hqa hqb hba hbb hc0 hc1 hc2
        go_wp2_with fail
        go_roundw
        case rel => exact ⟨i + 1, by go_num, by omega, HWb.out⟩
        case measure => simp [intOf]; omega
      · have HW1 := Lib.hid HW.out
        clear HW
        go_wp2_with fail
        go_loopw [12] (fun y wr => ∃ k : Nat, y = .int .i64 k ∧ k ≤ k0 + 1 ∧ Hid (Below w5.heap.size w5 wr)) (fun y _ => k0 + 1 - (intOf y).toNat)
        case atStart => exact ⟨0, rfl, Nat.zero_le _, HW1.out⟩
        case round =>
          obtain ⟨k, rfl, hk, HW⟩ := hrel
          by_cases hlt2 : k ≤ k0
          · have R1 := fun (w : World) => slice_head (w := w) Ax (n := k0) (c := cx) (k := k) (by omega)
            have HPl := Lib.hid (show (xs.take k).length = k by rw [List.length_take, HN.out]; omega)
            have HPf := Lib.hid (show ∀ r ∈ xs.take k, r.Fits from fun r hr => HFx0.out r (List.mem_of_mem_take hr))
            obtain ⟨s, hs⟩ : ∃ s, rightS (xs.take k) m n L = s := ⟨_, rfl⟩
            have HS1 := Lib.hid (fun (wx : World) (hn : Nt wx nb bm L) (hx : Has wx w5.heap.size Ax (reqCells (xs.take k))) => HM.out.batch hn (c := cx) hx HPl.out (by omega) HPf.out m n HFn.out)
            have HS2 := Lib.hid (fun (wx : World) (hn : Rf R wx rb L) (hx : Has wx w5.heap.size Ax (reqCells (xs.take k))) => rright_n hn HNd.out (c := cx) hx HPl.out (by omega) (fun r hr => (HPf.out r hr).sg) m n)
            rw [hs] at HS1 HS2
            have hq0 : Below w5.heap.size w5 wr.drew := HW.out.trans ⟨rfl, rfl, rfl, Nat.le_refl _, fun _ _ => rfl⟩
            clear hs
            go_wp2_with fail
            go_region_with (first
              | (go_at_call 13; (with_reducible refine (HS1.out _ ?_ ?_).mono ?_); exact HNt.out.below hq0; exact (has_head HX.out k).below hq0 (Nat.le_refl _); rintro e wa ⟨rfl, hba⟩; have hqa : Below w5.heap.size w5 wa := hq0.trans (Below.mono hba hq0.size))
              | (go_at_call 25; (with_reducible refine (HS2.out _ ?_ ?_).mono ?_); exact HRf.out.below hqa; exact (has_head HX.out k).below hqa (Nat.le_refl _); rintro e wb ⟨rfl, hbb⟩; have hqb : Below w5.heap.size w5 wb := hqa.trans (Below.mono hbb hqa.size)))
            have HWb := Lib.hid hqb
            clear hq0 hqa hqb hba hbb R1
            go_wp2_with fail
            go_roundw
            case rel => exact ⟨k + 1, by go_num, by omega, HWb.out⟩
            case measure => simp [intOf]; omega
          · go_wp2_with fail
            refine (wakes5_any HM.out _).mono ?_
            rintro e w8 ⟨rfl, hb8⟩
            have HW8 := Lib.hid (HW.out.trans (hb8.mono HW.out.size))
            clear hb8
            go_wp2_with fail
            go_ret
            exact ⟨rfl, HB5.out.trans (HW8.out.mono HB5.out.size)⟩
end Go.Proofs.Ytdopgdaobpcbjaa
