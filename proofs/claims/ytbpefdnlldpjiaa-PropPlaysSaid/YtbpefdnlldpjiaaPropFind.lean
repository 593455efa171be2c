/- Package prop: find, by the library's search. -/
import Derived.Test.YtbpefdnlldpjiaaProp1
import Derived.Deep.RegionHeld3
namespace Go.Proofs.Ytbpefdnlldpjiaa
open Go.RowKit Go.Sort
set_option linter.unusedSimpArgs false

set_option maxHeartbeats 4000000 in
set_option maxRecDepth 100000 in
theorem search_any {w : World} {A : Option Addr} {c n : Nat} {L : List Tr} {r : Rq} (h : Has w w.heap.size A (trCells L)) (hs : Ris (rqs L)) (hn : L.length = n) (hm : n ≤ 16) :
    Calls Try.prog 41 #[.slice A n c, .agg #[.int .i64 r.cl, .int .i64 r.tm, .int .i64 r.kd, .int .i64 r.ky, .int .i64 r.vl, .int .i64 r.sg], .func (.func 42) #[] #[]] w fun e w' => e = .returned (.tuple #[.int .i64 (seat L r : Nat), .bool (had L r)]) ∧ Below w.heap.size w w' := by
  have HH := Lib.hid h
  have HS := Lib.hid hs
  have HN := Lib.hid hn
  have H0 := Lib.hid (show Sr w w.heap.size r L 0 n (w.alloc (.cells #[.int .i64 r.cl, .int .i64 r.tm, .int .i64 r.kd, .int .i64 r.ky, .int .i64 r.vl, .int .i64 r.sg] 25)) from
    ⟨(Below.refl _ _).alloc (Nat.le_refl _) _, Blk.new _ _ _, fun k hk => absurd hk (Nat.not_lt_zero _), fun k x hk hx => absurd (List.getElem?_eq_some_iff.1 hx).1 (by omega)⟩)
  clear h hs hn
  go_enter Try.func41, Try.ntmps41
  go_wp2_with fail
  obtain ⟨gt, hgt⟩ : ∃ g, w.heap.size = g := ⟨_, rfl⟩
  rw [hgt] at H0
  simp only [hgt]
  go_loopw [9, 10] (fun x y wr => ∃ (i j : Nat), x = .int .i64 i ∧ y = .int .i64 j ∧ i ≤ j ∧ j ≤ n ∧ Hid (Sr w gt r L i j wr)) (fun x y _ => (intOf y).toNat - (intOf x).toNat)
  case atStart => exact ⟨0, n, rfl, rfl, Nat.zero_le _, Nat.le_refl _, H0.out⟩
  case round =>
    obtain ⟨i, j, rfl, rfl, hij, hjn, HR⟩ := hrel
    by_cases hlt : i < j
    · obtain ⟨k, hk⟩ : ∃ k, (i + j) / 2 = k := ⟨_, rfl⟩
      have hik : i ≤ k := by omega
      have hkj : k < j := by omega
      have hkL : k < L.length := by rw [HN.out]; omega
      obtain ⟨ad, rfl, hab, hR⟩ := tr_at (HH.out.below HR.out.low (Nat.le_refl _)) hkL
      have HX := Lib.hid (show L[k]? = some L[k] from List.getElem?_eq_getElem hkL)
      obtain ⟨x, hx⟩ : ∃ x, L[k] = x := ⟨_, rfl⟩
      rw [hx] at hR HX
      clear hx hkL
      have HRA := Lib.hid hR
      have HC := Lib.hid (fun w => find_cl x r w)
      obtain ⟨z, hz⟩ : ∃ z, cmpR x.rq r = z := ⟨_, rfl⟩
      obtain ⟨m, hm⟩ : ∃ m : Int, (maskS x.bs : Nat) = m := ⟨_, rfl⟩
      obtain ⟨c0, c1, c2, c3, c4, c5, c6, c7⟩ := hR
      rw [hm] at HC c6
      rw [hz] at HC
      have HZ := Lib.hid hz
      have d0 := HR.out.box.cell 0
      have d1 := HR.out.box.cell 1
      have d2 := HR.out.box.cell 2
      have d3 := HR.out.box.cell 3
      have d4 := HR.out.box.cell 4
      have d5 := HR.out.box.cell 5
      simp only [List.getElem?_toArray, List.getElem?_cons_zero, List.getElem?_cons_succ] at d0 d1 d2 d3 d4 d5
      have HM := Lib.hid hm
      have HLT := Lib.hid (show ad.block < wr.heap.size by have := HR.out.low.size; omega)
      clear hm hz
      have HK := Lib.hid (fun (wz : World) (hb : Below wr.drew.heap.size wr.drew wz) => show (wz.cell? (ad.add (k * 8)) = some (.int .i64 x.rq.cl) ∧ wz.cell? ⟨(ad.add (k * 8)).block, (ad.add (k * 8)).off + 1, none⟩ = some (.int .i64 x.rq.tm) ∧ wz.cell? ⟨(ad.add (k * 8)).block, (ad.add (k * 8)).off + 2, none⟩ = some (.int .i64 x.rq.kd) ∧ wz.cell? ⟨(ad.add (k * 8)).block, (ad.add (k * 8)).off + 3, none⟩ = some (.int .i64 x.rq.ky) ∧ wz.cell? ⟨(ad.add (k * 8)).block, (ad.add (k * 8)).off + 4, none⟩ = some (.int .i64 x.rq.vl) ∧ wz.cell? ⟨(ad.add (k * 8)).block, (ad.add (k * 8)).off + 5, none⟩ = some (.int .i64 x.rq.sg) ∧ wz.cell? ⟨(ad.add (k * 8)).block, (ad.add (k * 8)).off + 6, none⟩ = some (.int .u16 m) ∧ wz.cell? ⟨(ad.add (k * 8)).block, (ad.add (k * 8)).off + 7, none⟩ = some (.int .i64 x.sc) ∧ wz.cell? ⟨gt, 0, none⟩ = some (.int .i64 r.cl) ∧ wz.cell? ⟨gt, 1, none⟩ = some (.int .i64 r.tm) ∧ wz.cell? ⟨gt, 2, none⟩ = some (.int .i64 r.kd) ∧ wz.cell? ⟨gt, 3, none⟩ = some (.int .i64 r.ky) ∧ wz.cell? ⟨gt, 4, none⟩ = some (.int .i64 r.vl) ∧ wz.cell? ⟨gt, 5, none⟩ = some (.int .i64 r.sg)) from by
        have hq := HRA.out.back (hb.block (ad.add (k * 8)).block (by rw [addr_block]; exact HLT.out))
        have hx := (HR.out.box.drew.below hb HR.out.box.lt)
        have e0 := hx.cell 0
        have e1 := hx.cell 1
        have e2 := hx.cell 2
        have e3 := hx.cell 3
        have e4 := hx.cell 4
        have e5 := hx.cell 5
        simp only [List.getElem?_toArray, List.getElem?_cons_zero, List.getElem?_cons_succ] at e0 e1 e2 e3 e4 e5
        exact ⟨hq.c0, hq.c1, hq.c2, hq.c3, hq.c4, hq.c5, hq.c6.trans (by rw [HM.out]), hq.c7, e0, e1, e2, e3, e4, e5⟩)
      have hq1 := HK.out wr.drew (Below.refl _ _)
      have hkn : (k : Int) < (n : Int) := by omega
      have hk2 : ((i : Int) + (j : Int)) / 2 = (k : Int) := by omega
      go_wp2_with fail
      clear hk hk2
      by_cases hc : z < 0
      · have HR2 := Lib.hid (fun (wz : World) (hb : Below wr.drew.heap.size wr.drew wz) => (HR.out.below (Below.trans (⟨rfl, rfl, rfl, Nat.le_refl _, fun _ _ => rfl⟩ : Below wr.heap.size wr wr.drew) hb)).up HS.out HX.out (by rw [HZ.out]; exact hc))
        have hg : decide (z < 0) = true := decide_eq_true hc
        clear hc
        go_region_held3 (fun w' => w'.cell? (ad.add (k * 8)) = some (.int .i64 x.rq.cl) ∧ w'.cell? ⟨(ad.add (k * 8)).block, (ad.add (k * 8)).off + 1, none⟩ = some (.int .i64 x.rq.tm) ∧ w'.cell? ⟨(ad.add (k * 8)).block, (ad.add (k * 8)).off + 2, none⟩ = some (.int .i64 x.rq.kd) ∧ w'.cell? ⟨(ad.add (k * 8)).block, (ad.add (k * 8)).off + 3, none⟩ = some (.int .i64 x.rq.ky) ∧ w'.cell? ⟨(ad.add (k * 8)).block, (ad.add (k * 8)).off + 4, none⟩ = some (.int .i64 x.rq.vl) ∧ w'.cell? ⟨(ad.add (k * 8)).block, (ad.add (k * 8)).off + 5, none⟩ = some (.int .i64 x.rq.sg) ∧ w'.cell? ⟨(ad.add (k * 8)).block, (ad.add (k * 8)).off + 6, none⟩ = some (.int .u16 m) ∧ w'.cell? ⟨(ad.add (k * 8)).block, (ad.add (k * 8)).off + 7, none⟩ = some (.int .i64 x.sc) ∧ w'.cell? ⟨gt, 0, none⟩ = some (.int .i64 r.cl) ∧ w'.cell? ⟨gt, 1, none⟩ = some (.int .i64 r.tm) ∧ w'.cell? ⟨gt, 2, none⟩ = some (.int .i64 r.kd) ∧ w'.cell? ⟨gt, 3, none⟩ = some (.int .i64 r.ky) ∧ w'.cell? ⟨gt, 4, none⟩ = some (.int .i64 r.vl) ∧ w'.cell? ⟨gt, 5, none⟩ = some (.int .i64 r.sg)) (first | exact hq1 | exact hq2 | go_keep)
          ((go_at_call 42; refine (HC.out wr.drew).mono ?_; rintro e w2 ⟨rfl, hb2⟩; have hq2 := HK.out w2 hb2))
        have HR3 := Lib.hid (HR2.out _ hb2)
        clear hb2 HR2 HR HRA HK hq1 hq2 c0 c1 c2 c3 c4 c5 c6 c7 d0 d1 d2 d3 d4 d5
        go_wp2_with fail
        go_roundw
        case rel => exact ⟨k + 1, j, by go_num, rfl, by omega, by omega, HR3.out⟩
        case measure => simp [intOf]; omega
      · have HR2 := Lib.hid (fun (wz : World) (hb : Below wr.drew.heap.size wr.drew wz) => (HR.out.below (Below.trans (⟨rfl, rfl, rfl, Nat.le_refl _, fun _ _ => rfl⟩ : Below wr.heap.size wr wr.drew) hb)).down HS.out HX.out (by rw [HZ.out]; omega))
        have hg : decide (z < 0) = false := decide_eq_false hc
        clear hc
        go_region_held3 (fun w' => w'.cell? (ad.add (k * 8)) = some (.int .i64 x.rq.cl) ∧ w'.cell? ⟨(ad.add (k * 8)).block, (ad.add (k * 8)).off + 1, none⟩ = some (.int .i64 x.rq.tm) ∧ w'.cell? ⟨(ad.add (k * 8)).block, (ad.add (k * 8)).off + 2, none⟩ = some (.int .i64 x.rq.kd) ∧ w'.cell? ⟨(ad.add (k * 8)).block, (ad.add (k * 8)).off + 3, none⟩ = some (.int .i64 x.rq.ky) ∧ w'.cell? ⟨(ad.add (k * 8)).block, (ad.add (k * 8)).off + 4, none⟩ = some (.int .i64 x.rq.vl) ∧ w'.cell? ⟨(ad.add (k * 8)).block, (ad.add (k * 8)).off + 5, none⟩ = some (.int .i64 x.rq.sg) ∧ w'.cell? ⟨(ad.add (k * 8)).block, (ad.add (k * 8)).off + 6, none⟩ = some (.int .u16 m) ∧ w'.cell? ⟨(ad.add (k * 8)).block, (ad.add (k * 8)).off + 7, none⟩ = some (.int .i64 x.sc) ∧ w'.cell? ⟨gt, 0, none⟩ = some (.int .i64 r.cl) ∧ w'.cell? ⟨gt, 1, none⟩ = some (.int .i64 r.tm) ∧ w'.cell? ⟨gt, 2, none⟩ = some (.int .i64 r.kd) ∧ w'.cell? ⟨gt, 3, none⟩ = some (.int .i64 r.ky) ∧ w'.cell? ⟨gt, 4, none⟩ = some (.int .i64 r.vl) ∧ w'.cell? ⟨gt, 5, none⟩ = some (.int .i64 r.sg)) (first | exact hq1 | exact hq2 | go_keep)
          ((go_at_call 42; refine (HC.out wr.drew).mono ?_; rintro e w2 ⟨rfl, hb2⟩; have hq2 := HK.out w2 hb2))
        have HR3 := Lib.hid (HR2.out _ hb2)
        clear hb2 HR2 HR HRA HK hq1 hq2 c0 c1 c2 c3 c4 c5 c6 c7 d0 d1 d2 d3 d4 d5
        go_wp2_with fail
        go_roundw
        case rel => exact ⟨i, k, rfl, rfl, by omega, by omega, HR3.out⟩
        case measure => simp [intOf]; omega
    · obtain rfl : i = j := by omega
      have HSt := Lib.hid (HR.out.done (by rw [HN.out]; exact hjn))
      by_cases hin : i < n
      · have hkL : i < L.length := by rw [HN.out]; omega
        obtain ⟨ad, rfl, hab, hR⟩ := tr_at (HH.out.below HR.out.low (Nat.le_refl _)) hkL
        have hX : L[i]? = some L[i] := List.getElem?_eq_getElem hkL
        obtain ⟨x, hx⟩ : ∃ x, L[i] = x := ⟨_, rfl⟩
        rw [hx] at hR hX
        have hd : had L r = decide (cmpR x.rq r = 0) := had_here HS.out (by rw [HSt.out]; exact hX)
        have HD := Lib.hid hd
        clear hx hkL hX hd
        have HC := Lib.hid (fun w => find_cl x r w)
        obtain ⟨z, hz⟩ : ∃ z, cmpR x.rq r = z := ⟨_, rfl⟩
        obtain ⟨m, hm⟩ : ∃ m : Int, (maskS x.bs : Nat) = m := ⟨_, rfl⟩
        have hR0 := hR
        obtain ⟨c0, c1, c2, c3, c4, c5, c6, c7⟩ := hR
        rw [hm] at HC c6
        rw [hz] at HC HD
        have d0 := HR.out.box.cell 0
        have d1 := HR.out.box.cell 1
        have d2 := HR.out.box.cell 2
        have d3 := HR.out.box.cell 3
        have d4 := HR.out.box.cell 4
        have d5 := HR.out.box.cell 5
        simp only [List.getElem?_toArray, List.getElem?_cons_zero, List.getElem?_cons_succ] at d0 d1 d2 d3 d4 d5
        have hg : decide (i < n) = true := decide_eq_true hin
        have HM := Lib.hid hm
        have HRA := Lib.hid hR0
        have HLT := Lib.hid (show ad.block < wr.heap.size by have := HR.out.low.size; omega)
        clear hm hz hlt hR0
        have HK := Lib.hid (fun (wz : World) (hb : Below wr.drew.heap.size wr.drew wz) => show (wz.cell? (ad.add (i * 8)) = some (.int .i64 x.rq.cl) ∧ wz.cell? ⟨(ad.add (i * 8)).block, (ad.add (i * 8)).off + 1, none⟩ = some (.int .i64 x.rq.tm) ∧ wz.cell? ⟨(ad.add (i * 8)).block, (ad.add (i * 8)).off + 2, none⟩ = some (.int .i64 x.rq.kd) ∧ wz.cell? ⟨(ad.add (i * 8)).block, (ad.add (i * 8)).off + 3, none⟩ = some (.int .i64 x.rq.ky) ∧ wz.cell? ⟨(ad.add (i * 8)).block, (ad.add (i * 8)).off + 4, none⟩ = some (.int .i64 x.rq.vl) ∧ wz.cell? ⟨(ad.add (i * 8)).block, (ad.add (i * 8)).off + 5, none⟩ = some (.int .i64 x.rq.sg) ∧ wz.cell? ⟨(ad.add (i * 8)).block, (ad.add (i * 8)).off + 6, none⟩ = some (.int .u16 m) ∧ wz.cell? ⟨(ad.add (i * 8)).block, (ad.add (i * 8)).off + 7, none⟩ = some (.int .i64 x.sc) ∧ wz.cell? ⟨gt, 0, none⟩ = some (.int .i64 r.cl) ∧ wz.cell? ⟨gt, 1, none⟩ = some (.int .i64 r.tm) ∧ wz.cell? ⟨gt, 2, none⟩ = some (.int .i64 r.kd) ∧ wz.cell? ⟨gt, 3, none⟩ = some (.int .i64 r.ky) ∧ wz.cell? ⟨gt, 4, none⟩ = some (.int .i64 r.vl) ∧ wz.cell? ⟨gt, 5, none⟩ = some (.int .i64 r.sg)) from by
          have hq := HRA.out.back (hb.block (ad.add (i * 8)).block (by rw [addr_block]; exact HLT.out))
          have hx := (HR.out.box.drew.below hb HR.out.box.lt)
          have e0 := hx.cell 0
          have e1 := hx.cell 1
          have e2 := hx.cell 2
          have e3 := hx.cell 3
          have e4 := hx.cell 4
          have e5 := hx.cell 5
          simp only [List.getElem?_toArray, List.getElem?_cons_zero, List.getElem?_cons_succ] at e0 e1 e2 e3 e4 e5
          exact ⟨hq.c0, hq.c1, hq.c2, hq.c3, hq.c4, hq.c5, hq.c6.trans (by rw [HM.out]), hq.c7, e0, e1, e2, e3, e4, e5⟩)
        have hq1 := HK.out wr.drew (Below.refl _ _)
        have hkn : (i : Int) < (n : Int) := by omega
        go_wp2_with fail
        go_region_held3 (fun w' => w'.cell? (ad.add (i * 8)) = some (.int .i64 x.rq.cl) ∧ w'.cell? ⟨(ad.add (i * 8)).block, (ad.add (i * 8)).off + 1, none⟩ = some (.int .i64 x.rq.tm) ∧ w'.cell? ⟨(ad.add (i * 8)).block, (ad.add (i * 8)).off + 2, none⟩ = some (.int .i64 x.rq.kd) ∧ w'.cell? ⟨(ad.add (i * 8)).block, (ad.add (i * 8)).off + 3, none⟩ = some (.int .i64 x.rq.ky) ∧ w'.cell? ⟨(ad.add (i * 8)).block, (ad.add (i * 8)).off + 4, none⟩ = some (.int .i64 x.rq.vl) ∧ w'.cell? ⟨(ad.add (i * 8)).block, (ad.add (i * 8)).off + 5, none⟩ = some (.int .i64 x.rq.sg) ∧ w'.cell? ⟨(ad.add (i * 8)).block, (ad.add (i * 8)).off + 6, none⟩ = some (.int .u16 m) ∧ w'.cell? ⟨(ad.add (i * 8)).block, (ad.add (i * 8)).off + 7, none⟩ = some (.int .i64 x.sc) ∧ w'.cell? ⟨gt, 0, none⟩ = some (.int .i64 r.cl) ∧ w'.cell? ⟨gt, 1, none⟩ = some (.int .i64 r.tm) ∧ w'.cell? ⟨gt, 2, none⟩ = some (.int .i64 r.kd) ∧ w'.cell? ⟨gt, 3, none⟩ = some (.int .i64 r.ky) ∧ w'.cell? ⟨gt, 4, none⟩ = some (.int .i64 r.vl) ∧ w'.cell? ⟨gt, 5, none⟩ = some (.int .i64 r.sg)) (first | exact hq1 | exact hq2 | go_keep)
          ((go_at_call 42; refine (HC.out wr.drew).mono ?_; rintro e w2 ⟨rfl, hb2⟩; have hq2 := HK.out w2 hb2))
        have HR3 := Lib.hid ((HR.out.below (Below.trans (⟨rfl, rfl, rfl, Nat.le_refl _, fun _ _ => rfl⟩ : Below wr.heap.size wr wr.drew) hb2)).low)
        clear hb2 HR HRA HK hq1 hq2 c0 c1 c2 c3 c4 c5 c6 c7 d0 d1 d2 d3 d4 d5
        go_wp2_with fail
        go_ret2
        exact ⟨by rw [HSt.out, HD.out]; rfl, HR3.out⟩
      · obtain rfl : i = n := by omega
        have HD := Lib.hid (had_end HS.out (by rw [HSt.out, HN.out]))
        have hg : decide (i < i) = false := by simp
        go_wp2_with fail
        go_quiet (fail)
        go_wp2_with fail
        go_ret2
        exact ⟨by rw [HSt.out, HD.out]; rfl, HR.out.low.trans ⟨rfl, rfl, rfl, Nat.le_refl _, fun _ _ => rfl⟩⟩
set_option maxHeartbeats 1000000 in
theorem pfind_any {w : World} {tb : Nat} {v : Value} {f n : Int} {L : List Tr} (h : Tb w tb v f n L) (r : Rq) : Calls Try.prog 26 #[.pointer (some ⟨tb, 0, none⟩), .agg #[.int .i64 r.cl, .int .i64 r.tm, .int .i64 r.kd, .int .i64 r.ky, .int .i64 r.vl, .int .i64 r.sg]] w fun e w' => e = .returned (.tuple #[.int .i64 (seat L r : Nat), .bool (had L r)]) ∧ Below w.heap.size w w' := by
  obtain ⟨A, c, rfl, _, _, hh⟩ := h.has
  have HB0 := Lib.hid (show Below w.heap.size w ((w.alloc (.cells #[.int .i64 r.cl, .int .i64 r.tm, .int .i64 r.kd, .int .i64 r.ky, .int .i64 r.vl, .int .i64 r.sg] 25))) from (Below.refl _ _).alloc (Nat.le_refl _) _)
  have HT := Lib.hid (h.below HB0.out)
  have HX := Lib.hid (Blk.new w 25 #[.int .i64 r.cl, .int .i64 r.tm, .int .i64 r.kd, .int .i64 r.ky, .int .i64 r.vl, .int .i64 r.sg])
  obtain ⟨w1, hw1⟩ : ∃ w1, w.alloc (.cells #[.int .i64 r.cl, .int .i64 r.tm, .int .i64 r.kd, .int .i64 r.ky, .int .i64 r.vl, .int .i64 r.sg] 25) = w1 := ⟨_, rfl⟩
  have HW1 := Lib.hid hw1
  rw [hw1] at HB0 HT HX
  clear hw1
  obtain ⟨n0, hn0⟩ : ∃ n0, L.length = n0 := ⟨_, rfl⟩
  have HC := Lib.hid (search_any (r := r) (c := c) (has_rows HT.out.row.drew) h.ok.ris hn0 (by rw [← hn0]; exact h.ok.most))
  have c2 := HT.out.blk.cell 2
  rw [hn0] at c2
  have d0 := HX.out.cell 0
  have d1 := HX.out.cell 1
  have d2 := HX.out.cell 2
  have d3 := HX.out.cell 3
  have d4 := HX.out.cell 4
  have d5 := HX.out.cell 5
  simp only [List.getElem?_toArray, List.getElem?_cons_zero, List.getElem?_cons_succ] at c2 d0 d1 d2 d3 d4 d5
  have HTB := Lib.hid (show tb < w1.heap.size from HT.out.blk.lt)
  have HK := Lib.hid (fun (wz : World) (hb : Below w1.drew.heap.size w1.drew wz) => show (wz.cell? ⟨tb, 2, none⟩ = some (.slice A n0 c) ∧ wz.cell? ⟨w.heap.size, 0, none⟩ = some (.int .i64 r.cl) ∧ wz.cell? ⟨w.heap.size, 1, none⟩ = some (.int .i64 r.tm) ∧ wz.cell? ⟨w.heap.size, 2, none⟩ = some (.int .i64 r.kd) ∧ wz.cell? ⟨w.heap.size, 3, none⟩ = some (.int .i64 r.ky) ∧ wz.cell? ⟨w.heap.size, 4, none⟩ = some (.int .i64 r.vl) ∧ wz.cell? ⟨w.heap.size, 5, none⟩ = some (.int .i64 r.sg)) from by
    have q : ∀ j g, g < w1.heap.size → wz.cell? ⟨g, j, none⟩ = w1.cell? ⟨g, j, none⟩ := fun j g hg => World.cell?_of_block (a := ⟨g, j, none⟩) (hb.block g hg)
    have hg := HX.out.lt
    exact ⟨(q _ _ HTB.out).trans c2, (q _ _ hg).trans d0, (q _ _ hg).trans d1, (q _ _ hg).trans d2, (q _ _ hg).trans d3, (q _ _ hg).trans d4, (q _ _ hg).trans d5⟩)
  have hq1 := HK.out w1.drew (Below.refl _ _)
  obtain ⟨gt, hgt⟩ : ∃ g, w.heap.size = g := ⟨_, rfl⟩
  rw [hgt] at d0 d1 d2 d3 d4 d5 HK hq1 HB0
  clear h hh hn0
  go_enter Try.func26, Try.ntmps26
  go_wp2_with fail
  rw [HW1.out]
  go_region_held3 (fun w' => w'.cell? ⟨tb, 2, none⟩ = some (.slice A n0 c) ∧ w'.cell? ⟨gt, 0, none⟩ = some (.int .i64 r.cl) ∧ w'.cell? ⟨gt, 1, none⟩ = some (.int .i64 r.tm) ∧ w'.cell? ⟨gt, 2, none⟩ = some (.int .i64 r.kd) ∧ w'.cell? ⟨gt, 3, none⟩ = some (.int .i64 r.ky) ∧ w'.cell? ⟨gt, 4, none⟩ = some (.int .i64 r.vl) ∧ w'.cell? ⟨gt, 5, none⟩ = some (.int .i64 r.sg)) (first | exact hq1 | exact hq2 | go_keep)
    ((go_at_call 41; refine HC.out.mono ?_; rintro e w2 ⟨rfl, hb2⟩; have hq2 := HK.out w2 hb2))
  have HE := Lib.hid (HB0.out.trans (Below.trans (⟨rfl, rfl, rfl, Nat.le_refl _, fun _ _ => rfl⟩ : Below gt w1 w1.drew) (hb2.mono (show gt ≤ w1.drew.heap.size from hgt ▸ HB0.out.size))))
  clear hb2 hq1 hq2 HK
  go_wp2_with fail
  go_ret2
  exact ⟨rfl, hgt ▸ HE.out⟩
end Go.Proofs.Ytbpefdnlldpjiaa
