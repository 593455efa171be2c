/- The contract of reqs.Order: slices.Clone, slices.SortFunc, slices.Compact at requests. -/
import Derived.Test.YtdopgdaobpcbjaaReqSort
import Derived.Lib.SliceRun
namespace Go.Proofs.Ytdopgdaobpcbjaa
open Go.RowKit

/-- A request's cells at a place. -/
structure Six (w : World) (a : Addr) (r : Rq) : Prop where
  c0 : w.cell? a = some (.int .i64 r.cl)
  c1 : w.cell? ⟨a.block, a.off + 1, none⟩ = some (.int .i64 r.tm)
  c2 : w.cell? ⟨a.block, a.off + 2, none⟩ = some (.int .i64 r.kd)
  c3 : w.cell? ⟨a.block, a.off + 3, none⟩ = some (.int .i64 r.ky)
  c4 : w.cell? ⟨a.block, a.off + 4, none⟩ = some (.int .i64 r.vl)
  c5 : w.cell? ⟨a.block, a.off + 5, none⟩ = some (.int .i64 r.sg)
theorem six_at {w : World} {B : Nat} {ad : Addr} {d : Array Rq} {k i : Nat} (h : Has w B (some ad) (reqCells (d.toList.drop k))) (hk : k + i < d.size) : Six w (ad.add (i * 6)) d[k + i]! := by
  have hi : i < (d.toList.drop k).length := by simp; omega
  obtain ⟨_, he, _, c0, c1, c2, c3, c4, c5⟩ := h.req hi
  cases he
  have e : (d.toList.drop k)[i] = d[k + i]! := by rw [List.getElem_drop, getElem!_pos d (k + i) hk]; simp
  rw [e] at c0 c1 c2 c3 c4 c5
  exact ⟨c0, c1, c2, c3, c4, c5⟩
theorem set_cells {d : Array Rq} {k : Nat} (x : Rq) (hk : k < d.size) : reqCells (d.setIfInBounds k x).toList = (reqCells d.toList).take (k * 6) ++ Rq.cells x ++ (reqCells d.toList).drop (k * 6 + (Rq.cells x).length) := by
  rw [Array.toList_setIfInBounds, List.set_eq_take_append_cons_drop, if_pos (by simpa using hk), reqCells_app, reqCells_take, List.append_assoc]
  congr 1
  show Rq.cells x ++ reqCells (d.toList.drop (k + 1)) = _
  rw [reqCells_drop, show k * 6 + (Rq.cells x).length = (k + 1) * 6 by rw [show (Rq.cells x).length = 6 from rfl]; omega]
theorem zero_cells (n : Nat) : (Builtin.zeroCells #[.int .i64 0, .int .i64 0, .int .i64 0, .int .i64 0, .int .i64 0, .int .i64 0] n).toList = List.replicate (n * 6) (.int .i64 0) := by
  refine List.ext_getElem (by simp [Builtin.zeroCells]) fun i h1 h2 => ?_
  have h6 : i % 6 < 6 := Nat.mod_lt _ (by omega)
  have key : ∀ k, k < 6 → (#[Value.int .i64 0, .int .i64 0, .int .i64 0, .int .i64 0, .int .i64 0, .int .i64 0] : Array Value)[k]! = .int .i64 0 := fun k hk => by
    match k, hk with
    | 0, _ => rfl
    | 1, _ => rfl
    | 2, _ => rfl
    | 3, _ => rfl
    | 4, _ => rfl
    | 5, _ => rfl
  simp only [Builtin.zeroCells, Array.toList_map, List.getElem_map, List.getElem_replicate]
  have hk := key _ h6
  simpa using hk
theorem clear_reqs {w : World} (ty : TypeId) {b o n c : Nat} (hn : 0 < n) (h : w.there b o (n * 6)) :
    (Builtin.clear_ #[22] ty #[.slice (some ⟨b, o, none⟩) n c]).run Try.prog w = .ok (.tuple #[]) (w.setCells b o (List.replicate (n * 6) (.int .i64 0))) := by
  have hst := run_storeCells_cells (P := Try.prog) b o (List.replicate (n * 6) (.int .i64 0)) 0 w (fun j hj => (h j (by simpa using hj)).1) (fun j hj => (h j (by simpa using hj)).2) (by intro v hv; rw [List.eq_of_mem_replicate hv]; rfl)
  simp only [Nat.add_zero] at hst
  have hzc := zero_cells n
  have hv := Try.zeroValue34
  obtain ⟨m, rfl⟩ : ∃ m, n = m + 1 := ⟨n - 1, by omega⟩
  simp [Builtin.clear_, run_underlying Try.underlying22, hv, Value.cells, hzc, hst]
theorem rq_size1 : (Try.prog.info? 34).map (·.size) = some 6 := by kernel_rfl
theorem rq_one1 (r : Rq) : (#[.int .i64 r.cl, .int .i64 r.tm, .int .i64 r.kd, .int .i64 r.ky, .int .i64 r.vl, .int .i64 r.sg] : Array Value).all (·.oneCell') = true :=
  all_oneCell_toArray (cs := Rq.cells r) (by intro v hv; simp [Rq.cells] at hv; rcases hv with rfl | rfl | rfl | rfl | rfl | rfl <;> rfl)
/-- A round of Compact: what has been looked at, what is kept. -/
structure CoSt (w : World) (b g c n : Nat) (d : Array Rq) (m kk : Nat) (dk : Array Rq) (wr : World) : Prop where
  own : wr.ownsRow b 34 6 (.slice (some ⟨g, 0, none⟩) n c) n (reqCells dk.toList)
  low : Below b w wr
  inv : Lib.CompInv d m kk dk
theorem CoSt.skip {w wr : World} {b g c n m kk : Nat} {d dk : Array Rq} (h : CoSt w b g c n d m kk dk wr) (hk : Lib.keeps d m = false) (q : Nat) : CoSt w b g c n d (m + 1) kk dk (wr.drewN q) :=
  ⟨h.own, h.low.trans ⟨rfl, rfl, rfl, Nat.le_refl _, fun _ _ => rfl⟩, h.inv.skip hk⟩
theorem CoSt.keep {w wr : World} {b g c n m kk : Nat} {d dk : Array Rq} (h : CoSt w b g c n d m kk dk wr) (hn : d.size = n) (hm : m < d.size) (hk : Lib.keeps d m = true) (q : Nat) : CoSt w b g c n d (m + 1) (kk + 1) (dk.setIfInBounds kk d[m]!) ((wr.drewN q).setCells g (kk * 6) (Rq.cells d[m]!)) := by
  have hlt := h.inv.lt
  have hsz := h.inv.size
  have ho : (wr.drewN q).ownsRow b 34 6 (.slice (some ⟨g, 0, none⟩) n c) n (reqCells dk.toList) := h.own
  have h6 : (Rq.cells d[m]!).length = 6 := rfl
  refine ⟨?_, ?_, h.inv.keep hm hk⟩
  · rw [set_cells _ (by omega)]
    exact own_cells ho (by rw [h6]; omega)
  · exact below_many _ (h.low.trans ⟨rfl, rfl, rfl, Nat.le_refl _, fun _ _ => rfl⟩) (h.own.lt g rfl).1
/-- What Compact leaves. -/
theorem CoSt.done {w wr : World} {b g c n kk : Nat} {d dk : Array Rq} (h : CoSt w b g c n d n kk dk wr) (hn : d.size = n) :
    (Lib.compactUpTo d n).length = kk ∧ (wr.setCells g (kk * 6) (List.replicate ((n - kk) * 6) (.int .i64 0))).ownsRow b 34 6 (.slice (some ⟨g, 0, none⟩) kk c) kk (reqCells (Lib.compactUpTo d n)) ∧ Below b w (wr.setCells g (kk * 6) (List.replicate ((n - kk) * 6) (.int .i64 0))) := by
  have hlt := h.inv.lt
  have hsz := h.inv.size
  refine ⟨h.inv.len, ?_, below_many _ h.low (h.own.lt g rfl).1⟩
  have ho := own_prefix (own_cells h.own (o := kk * 6) (vs := List.replicate ((n - kk) * 6) (.int .i64 0)) (by simp; omega)) (k := kk) (by omega)
  have hl : ((reqCells dk.toList).take (kk * 6)).length = kk * 6 := by rw [List.length_take, reqCells_len]; simp; omega
  rw [List.append_assoc, List.take_left' hl, ← reqCells_take] at ho
  have he : Lib.compactUpTo d n = dk.toList.take kk := by
    refine List.ext_getElem? fun t => ?_
    by_cases ht : t < kk
    · rw [h.inv.low t ht, List.getElem?_take_of_lt ht, List.getElem?_eq_getElem (by simp; omega), getElem!_pos dk t (by omega)]
      simp
    · rw [List.getElem?_eq_none (by rw [h.inv.len]; omega), List.getElem?_eq_none (by simp; omega)]
  rw [he]
  exact ho
theorem compact_few (A : Option Addr) (n c : Nat) (hn : n < 2) (w : World) :
    Calls Try.prog 40 #[.slice A n c] w fun e w' => e = .returned (.slice A n c) ∧ w' = w := by
  have t0 : decide ((n : Int) < 2) = true := decide_eq_true (by omega)
  go_enter Try.func40, Try.ntmps40
  go_wp2
  go_ret
  exact ⟨rfl, rfl⟩
set_option maxHeartbeats 4000000 in
set_option maxRecDepth 100000 in
theorem rq_compact {w : World} {b g c n : Nat} {d : Array Rq} (ho : w.ownsRow b 34 6 (.slice (some ⟨g, 0, none⟩) n c) n (reqCells d.toList)) (hd : d.size = n) (h2 : 2 ≤ n) (hn : n ≤ 1000000) :
    Calls Try.prog 40 #[.slice (some ⟨g, 0, none⟩) n c] w fun e w' => e = .returned (.slice (some ⟨g, 0, none⟩) (Lib.compactUpTo d n).length c) ∧ w'.ownsRow b 34 6 (.slice (some ⟨g, 0, none⟩) (Lib.compactUpTo d n).length c) (Lib.compactUpTo d n).length (reqCells (Lib.compactUpTo d n)) ∧ Below b w w' := by
  obtain ⟨ad, had⟩ : ∃ ad : Addr, ad = ⟨g, 0, none⟩ := ⟨_, rfl⟩
  have HAd := Lib.hid had
  have HO := Lib.hid ho
  have HD := Lib.hid hd
  have hnc : n ≤ c := by
    obtain ⟨A', c', he, h1, _⟩ := own_slice ho
    cases he
    exact h1
  have t0 : decide ((n : Int) < 2) = false := decide_eq_false (by omega)
  have t1 : decide (n < 2) = false := decide_eq_false (by omega)
  rw [← had]
  clear had ho hd
  go_enter Try.func40, Try.ntmps40
  go_wp2
  go_loopw [3] (fun x wr => ∃ k m : Nat, x = .int .i64 k ∧ 1 ≤ k ∧ k ≤ n ∧ Hid (wr = w.drewN m) ∧ Hid (∀ j, j < k → Lib.keeps d j = true)) (fun x _ => n - (intOf x).toNat)
  case atStart => exact ⟨1, 0, rfl, Nat.le_refl _, by omega, rfl, Lib.keeps_lt_one d⟩
  case round =>
    obtain ⟨k, m, rfl, hk1, hk, HW, HK⟩ := hrel
    by_cases hlt : k < n
    · obtain ⟨j, rfl⟩ : ∃ j, k = j + 1 := ⟨k - 1, by omega⟩
      have HH := Lib.hid (show Has wr wr.heap.size (some ad) (reqCells (d.toList.drop 0)) from by rw [HW.out, HAd.out]; exact has_rows HO.out)
      have S1 := six_at HH.out (k := 0) (i := j + 1) (by rw [HD.out]; omega)
      have S0 := six_at HH.out (k := 0) (i := j) (by rw [HD.out]; omega)
      rw [Nat.zero_add] at S1 S0
      obtain ⟨x, hx⟩ : ∃ x, d[j + 1]! = x := ⟨_, rfl⟩
      obtain ⟨y, hy⟩ : ∃ y, d[j]! = y := ⟨_, rfl⟩
      rw [hx] at S1
      rw [hy] at S0
      obtain ⟨c0, c1, c2, c3, c4, c5⟩ := S1
      obtain ⟨e0, e1, e2, e3, e4, e5⟩ := S0
      have HX := Lib.hid hx
      have HY := Lib.hid hy
      clear hx hy
      have hj1 : IntKind.i64.wrap (j : Int) = (j : Int) := IntWalk.i64_in _ (by omega)
      have hj2 : 0 ≤ (j : Int) + 1 := by omega
      have hj3 : ((j : Int) + 1).toNat = j + 1 := by omega
      have hj4 : (j : Int) + 1 < n := by omega
      have hja : (0 : Int) ≤ (j : Int) := by omega
      have hjb : (j : Int) < n := by omega
      have G := fun (w : World) => guard_req .eql (.tmp 19) (.tmp 24) #[.int .i64 x.cl, .int .i64 x.tm, .int .i64 x.kd, .int .i64 x.ky, .int .i64 x.vl, .int .i64 x.sg] #[.int .i64 y.cl, .int .i64 y.tm, .int .i64 y.kd, .int .i64 y.ky, .int .i64 y.vl, .int .i64 y.sg] w
      by_cases hxy : x = y
      · have E := fun (w : World) => eql_req (x := x) (y := y) (r := true) (by simp [hxy]) w
        have HKn := Lib.hid (show Lib.keeps d (j + 1) = false from Lib.keeps_neg (by omega) (by rw [HX.out, show j + 1 - 1 = j from rfl, HY.out]; exact hxy))
        clear hxy
        go_wp2
        go_quiet (fail)
        clear E G c0 c1 c2 c3 c4 c5 e0 e1 e2 e3 e4 e5
        have HTl := Lib.hid (show tailA (some ad) c (j + 1) = some (ad.add ((j + 1) * 6)) by unfold tailA; rw [if_neg (by omega)]; rfl)
        have HCo := Lib.hid (show CoSt w b g c n d (j + 1 + 1) (j + 1) d (wr.drewN nq) from ⟨by rw [HW.out]; exact HO.out, by rw [HW.out]; exact ⟨rfl, rfl, rfl, Nat.le_refl _, fun _ _ => rfl⟩, Lib.CompInv.start HK.out HKn.out⟩)
        go_wp2
        go_loopw [3, 5] (fun x3 x5 wr => ∃ (kk k2 : Nat) (dk : Array Rq), x3 = .int .i64 kk ∧ x5 = .int .i64 k2 ∧ 1 ≤ k2 ∧ j + 1 + k2 ≤ n ∧ kk < n ∧ Hid (CoSt w b g c n d (j + 1 + k2) kk dk wr)) (fun _ x5 _ => n - (intOf x5).toNat)
        case atStart => exact ⟨j + 1, 1, d, by go_num, rfl, Nat.le_refl _, by omega, by omega, HCo.out⟩
        case round =>
          obtain ⟨kk, k2, dk, rfl, rfl, hk2, hle, hkn, HS⟩ := hrel
          by_cases hlt2 : j + 1 + k2 < n
          · obtain ⟨i, rfl⟩ : ∃ i, k2 = i + 1 := ⟨k2 - 1, by omega⟩
            have HHk := Lib.hid (show Has wr wr.heap.size (some (ad.add ((j + 1) * 6))) (reqCells (dk.toList.drop (j + 1))) from by
              have h1 := has_rows HS.out.own
              rw [← HAd.out] at h1
              have h2 := has_tail (c := c) (k := j + 1) h1 (by have := HS.out.inv.size; have := HD.out; simp; omega) (by have := HS.out.inv.size; have := HD.out; simp; omega)
              rwa [HTl.out] at h2)
            have S1 := six_at HHk.out (i := i + 1) (by have := HS.out.inv.size; have := HD.out; omega)
            have S0 := six_at HHk.out (i := i) (by have := HS.out.inv.size; have := HD.out; omega)
            rw [HS.out.inv.high _ (by have := HS.out.inv.lt; omega)] at S1 S0
            obtain ⟨u, hu⟩ : ∃ u, d[j + 1 + (i + 1)]! = u := ⟨_, rfl⟩
            obtain ⟨v, hv⟩ : ∃ v, d[j + 1 + i]! = v := ⟨_, rfl⟩
            rw [hu] at S1
            rw [hv] at S0
            obtain ⟨c0, c1, c2, c3, c4, c5⟩ := S1
            obtain ⟨e0, e1, e2, e3, e4, e5⟩ := S0
            have HU := Lib.hid hu
            have HV := Lib.hid hv
            clear hu hv
            have hi1 : IntKind.i64.wrap (i : Int) = (i : Int) := IntWalk.i64_in _ (by omega)
            have hi2 : 0 ≤ (i : Int) + 1 := by omega
            have hi3 : ((i : Int) + 1).toNat = i + 1 := by omega
            have hi4 : (i : Int) + 1 < ((n - (j + 1) : Nat) : Int) := by omega
            have hi5 : i + 1 < n - (j + 1) := by omega
            have hia : (0 : Int) ≤ (i : Int) := by omega
            have hib : (i : Int) < ((n - (j + 1) : Nat) : Int) := by omega
            have G := fun (w : World) => guard_req .neq (.tmp 38) (.tmp 43) #[.int .i64 u.cl, .int .i64 u.tm, .int .i64 u.kd, .int .i64 u.ky, .int .i64 u.vl, .int .i64 u.sg] #[.int .i64 v.cl, .int .i64 v.tm, .int .i64 v.kd, .int .i64 v.ky, .int .i64 v.vl, .int .i64 v.sg] w
            by_cases huv : u = v
            · have E := fun (w : World) => neq_req (x := u) (y := v) (r := false) (by simp [huv]) w
              have HKe := Lib.hid (show Lib.keeps d (j + 1 + (i + 1)) = false from Lib.keeps_neg (by omega) (by rw [HU.out, show j + 1 + (i + 1) - 1 = j + 1 + i by omega, HV.out]; exact huv))
              clear huv
              go_wp2
              go_quiet (fail)
              clear E G
              have HS2 := Lib.hid (HS.out.skip HKe.out nq)
              go_wp2
              go_roundw
              case rel => exact ⟨kk, i + 1 + 1, dk, rfl, by go_num, by omega, by omega, hkn, HS2.out⟩
              case measure => simp [intOf]; omega
            · have E := fun (w : World) => neq_req (x := u) (y := v) (r := true) (by simp [huv]) w
              have HKe := Lib.hid (show Lib.keeps d (j + 1 + (i + 1)) = true from Lib.keeps_pos (by rw [HU.out, show j + 1 + (i + 1) - 1 = j + 1 + i by omega, HV.out]; exact huv))
              clear huv
              go_wp2
              go_quiet (fail)
              clear E G e0 e1 e2 e3 e4 e5 hi2 hi3
              have HS2 := Lib.hid (HS.out.keep HD.out (by have := HD.out; omega) HKe.out nq)
              rw [HU.out] at HS2
              have HTh := Lib.hid (own_there (w := wr.drewN nq) HS.out.own (o := kk * 6) (k := 6) (by omega))
              have HEk := Lib.hid (show ad.add (kk * 6) = ⟨g, kk * 6, none⟩ by rw [HAd.out, Addr.add_mid]; simp)
              obtain ⟨w3, hw3⟩ : ∃ w3, (wr.drewN nq).setCells g (kk * 6) (Rq.cells u) = w3 := ⟨_, rfl⟩
              rw [hw3] at HS2
              have HW3 := Lib.hid hw3
              have hka : (0 : Int) ≤ (kk : Int) := by omega
              have hkb : (kk : Int) < n := by omega
              clear hw3
              go_wp2_with (refine wpList_store_mid rfl 34 (.tmp 51) (.tmp 50) rfl g (kk * 6) #[.int .i64 u.cl, .int .i64 u.tm, .int .i64 u.kd, .int .i64 u.ky, .int .i64 u.vl, .int .i64 u.sg] (congrArg (fun p => Value.pointer (some p)) HEk.out) rfl HTh.out rq_size1 (rq_one1 u) ?_; rw [show ((#[.int .i64 u.cl, .int .i64 u.tm, .int .i64 u.kd, .int .i64 u.ky, .int .i64 u.vl, .int .i64 u.sg] : Array Value).toList) = Rq.cells u from rfl, HW3.out])
              go_roundw
              case rel =>
                repeat apply Exists.intro
                exact ⟨⟨kk + 1, i + 1 + 1, dk.setIfInBounds kk u, by go_num, by go_num, by omega, by omega, by have := HS2.out.inv.lt; omega, HS2.out⟩, rfl⟩
              case measure => simp [intOf]; omega
          · have hle2 : j + 1 + k2 = n := by omega
            have HDn := Lib.hid (show CoSt w b g c n d n kk dk wr from hle2 ▸ HS.out)
            have hn5 : ¬ k2 < n - (j + 1) := by omega
            have hn4 : ¬ ((k2 : Int) < ((n - (j + 1) : Nat) : Int)) := by omega
            have hcl : ∀ ty, (Builtin.clear_ #[22] ty #[.slice (some (ad.add (kk * 6))) (n - kk) (c - kk)]).run Try.prog wr = .ok (.tuple #[]) (wr.setCells g (kk * 6) (List.replicate ((n - kk) * 6) (.int .i64 0))) := fun ty => by
              rw [HAd.out, Addr.add_mid, Nat.zero_add]
              exact clear_reqs ty (by omega) (own_there HS.out.own (by omega))
            clear hle2
            go_wp2
            go_ret
            obtain ⟨h1, h2, h3⟩ := HDn.out.done HD.out
            rw [h1]
            exact ⟨rfl, by rw [HAd.out]; exact h2, h3⟩
      · have E := fun (w : World) => eql_req (x := x) (y := y) (r := false) (by simp [hxy]) w
        have HKn := Lib.hid (show Lib.keeps d (j + 1) = true from Lib.keeps_pos (by rw [HX.out, show j + 1 - 1 = j from rfl, HY.out]; exact hxy))
        clear hxy
        go_wp2
        go_quiet (fail)
        clear E G
        go_wp2
        go_roundw
        case rel => exact ⟨j + 1 + 1, _, by go_num, by omega, by omega, (show _ = w.drewN _ by rw [HW.out, World.drewN_drewN]), fun i hi => by
          by_cases e : i = j + 1
          · subst e; exact HKn.out
          · exact HK.out i (by omega)⟩
        case measure => simp [intOf]; omega
    · obtain rfl : k = n := by omega
      have HE := Lib.hid (show Lib.compactUpTo d k = d.toList by rw [Lib.compactUpTo_all d k HK.out, ← HD.out]; exact Lib.range_map_get d)
      go_wp2
      go_ret
      have hl : d.toList.length = k := by rw [← HD.out]; simp
      rw [HE.out, hl]
      exact ⟨rfl, by rw [HW.out, HAd.out]; exact HO.out, by rw [HW.out]; exact ⟨rfl, rfl, rfl, Nat.le_refl _, fun _ _ => rfl⟩⟩
end Go.Proofs.Ytdopgdaobpcbjaa
