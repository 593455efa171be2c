/- The walk of PropOrders: it returns true for any requests, ints and int. -/
import Derived.Test.YtbpefdnlldpjiaaPropOne
import Derived.Test.YtbpefdnlldpjiaaOrdMath
import Derived.Test.YtbpefdnlldpjiaaRefRows
import Derived.Test.YtbpefdnlldpjiaaRefBallot
namespace Go.Proofs.Ytbpefdnlldpjiaa
open Go.RowKit Go.Sort
set_option linter.unusedSimpArgs false

/-- Two tables that were made since w. -/
structure Two13 (w : World) (f n : Int) (t1 : Nat) (v1 : Value) (L1 : List Tr) (t2 : Nat) (v2 : Value) (L2 : List Tr) (wr : World) : Prop where
  r1 : Rt w t1 v1 f n L1 wr
  r2 : Rt w t2 v2 f n L2 wr
  ap : ∀ k, TZ t1 v1 k → ¬ TZ t2 v2 k
section
variable {w wr wz : World} {f n : Int} {t1 t2 : Nat} {v1 v2 : Value} {L1 L2 L' : List Tr}
theorem Two13.below (h : Two13 w f n t1 v1 L1 t2 v2 L2 wr) (hb : Below wr.heap.size wr wz) : Two13 w f n t1 v1 L1 t2 v2 L2 wz := ⟨h.r1.below hb, h.r2.below hb, h.ap⟩
theorem Two13.swap (h : Two13 w f n t1 v1 L1 t2 v2 L2 wr) : Two13 w f n t2 v2 L2 t1 v1 L1 wr := ⟨h.r2, h.r1, fun k h2 h1 => h.ap k h1 h2⟩
theorem Two13.put (h : Two13 w f n t1 v1 L1 t2 v2 L2 wr) (hp : TbPost wr t1 v1 f n L' wz) : ∃ v1', Two13 w f n t1 v1' L' t2 v2 L2 wz := by
  obtain ⟨v', a1, a2, a3⟩ := hp
  have hlow : Below w.heap.size w wz := h.r1.low.trans (a3.below h.r1.low.size (fun k hk hz => by
    rcases hz with rfl | hz
    · have := h.r1.lt; omega
    · have := h.r1.lg k hz; omega))
  refine ⟨v', ⟨a1, h.r1.lt, fun g hg => ?_, hlow⟩, ⟨h.r2.tab.kept a3 (fun k hk hz => h.ap k hz hk), h.r2.lt, h.r2.lg, hlow⟩, fun k hk h2 => ?_⟩
  · rcases a2 g hg with h2 | h2
    · exact h.r1.lg g h2
    · exact Nat.le_trans h.r1.low.size h2
  · rcases hk with e | e
    · exact h.ap k (Or.inl e) h2
    · rcases a2 k e with h3 | h3
      · exact h.ap k (Or.inr h3) h2
      · have := h.r2.tab.lt h2; omega
end
/-- What has been told, as it lies. -/
def toldC (p : Rq × Nat) : List Value := p.1.cells ++ [.int .i64 (p.2 : Nat)]
def toldCells (l : List (Rq × Nat)) : List Value := l.flatMap toldC
theorem told_len (p : Rq × Nat) : (toldC p).length = 7 := rfl
theorem toldCells_one (l : List (Rq × Nat)) : ∀ u ∈ toldCells l, u.oneCell' = true := by
  intro u hu
  obtain ⟨v, _, hv⟩ := List.mem_flatMap.1 hu
  simp [toldC, Rq.cells] at hv
  rcases hv with rfl | rfl | rfl | rfl | rfl | rfl | rfl <;> rfl
theorem info_told : (Try.prog.info? 59).map (fun i => (i.zero, i.size, i.bytes)) = some (some (.agg #[.int .i64 0, .int .i64 0, .int .i64 0, .int .i64 0, .int .i64 0, .int .i64 0, .int .i64 0]), 7, 56) := by kernel_rfl
theorem told_at {w : World} {B : Nat} {A : Option Addr} {l : List (Rq × Nat)} (h : Has w B A (toldCells l)) {i : Nat} {p : Rq × Nat} (hp : l[i]? = some p) : ∃ ad, A = some ad ∧ ad.block < B ∧ (w.cell? (ad.add (i * 7)) = some (.int .i64 p.1.cl) ∧ w.cell? ⟨(ad.add (i * 7)).block, (ad.add (i * 7)).off + 1, none⟩ = some (.int .i64 p.1.tm) ∧ w.cell? ⟨(ad.add (i * 7)).block, (ad.add (i * 7)).off + 2, none⟩ = some (.int .i64 p.1.kd) ∧ w.cell? ⟨(ad.add (i * 7)).block, (ad.add (i * 7)).off + 3, none⟩ = some (.int .i64 p.1.ky) ∧ w.cell? ⟨(ad.add (i * 7)).block, (ad.add (i * 7)).off + 4, none⟩ = some (.int .i64 p.1.vl) ∧ w.cell? ⟨(ad.add (i * 7)).block, (ad.add (i * 7)).off + 5, none⟩ = some (.int .i64 p.1.sg) ∧ w.cell? ⟨(ad.add (i * 7)).block, (ad.add (i * 7)).off + 6, none⟩ = some (.int .i64 (p.2 : Nat))) := by
  obtain ⟨hi, e⟩ := List.getElem?_eq_some_iff.1 hp
  obtain ⟨ad, hA, hb, hc⟩ := h.thing (f := toldC) (s := 7) told_len (by omega) hi
  rw [e] at hc
  refine ⟨ad, hA, hb, hc 0 _ rfl, ?_, ?_, ?_, ?_, ?_, ?_⟩
  · rw [← add_pos _ _ _ (by omega)]; exact hc 1 _ rfl
  · rw [← add_pos _ _ _ (by omega)]; exact hc 2 _ rfl
  · rw [← add_pos _ _ _ (by omega)]; exact hc 3 _ rfl
  · rw [← add_pos _ _ _ (by omega)]; exact hc 4 _ rfl
  · rw [← add_pos _ _ _ (by omega)]; exact hc 5 _ rfl
  · rw [← add_pos _ _ _ (by omega)]; exact hc 6 _ rfl
/-- The list under way. -/
structure To (w4 : World) (l : List Rq) (out : List (Rq × Nat)) (v : Value) (wr : World) : Prop where
  own : wr.ownsRow w4.heap.size 59 7 v out.length (toldCells out)
  low : Below w4.heap.size w4 wr
  good : ∀ p ∈ out, p.1 ∈ l ∧ p.2 < 4
theorem To.add {w4 wr wz : World} {l : List Rq} {out : List (Rq × Nat)} {v v2 : Value} {r : Rq} {k : Nat} (h : To w4 l out v wr) (ho : wz.ownsRow w4.heap.size 59 7 v2 (out.length + 1) (toldCells out ++ toldCells [(r, k)])) (hb : Below w4.heap.size w4 wz) (hr : r ∈ l) (hk : k < 4) : To w4 l (out ++ [(r, k)]) v2 wz := by
  refine ⟨?_, hb, fun p hp => ?_⟩
  · rw [List.length_append, show toldCells (out ++ [(r, k)]) = toldCells out ++ toldCells [(r, k)] by simp [toldCells]]
    exact ho
  · rcases List.mem_append.1 hp with hp | hp
    · exact h.good p hp
    · rw [List.mem_singleton.1 hp]; exact ⟨hr, hk⟩
theorem reqs_take {w : World} {B : Nat} {A : Option Addr} {l : List Rq} (h : Has w B A (reqCells l)) (k : Nat) : Has w B A (reqCells (l.take k)) := fun j u hj => by
  rw [reqCells_take, List.getElem?_take] at hj
  split at hj
  · exact h j u hj
  · cases hj
set_option maxRecDepth 100000 in
set_option maxHeartbeats 4000000 in
theorem propOrders_walk (A : Option Addr) (c : Nat) (l : List Rq) (A2 : Option Addr) (c2 : Nat) (zs : List Int) (tn : Int) (w : World) (w0 : IsReqs w A l c) (w1 : IsList .i64 w A2 zs c2) (w2 : (Lit.int .i64 tn).wf = true) :
    Calls Try.prog 8 #[.slice A l.length c, .slice A2 zs.length c2, .int .i64 tn] w fun e w' => e = .returned (.bool true) ∧ Below w.heap.size w w' := by
  have HTn := Lib.hid (wf_i64 w2)
  have HL := Lib.hid (reqs_take w0.has 4)
  have HZ := Lib.hid w1
  have hc := w0.le
  obtain ⟨n4, hn4⟩ : ∃ n, (l.take 4).length = n := ⟨_, rfl⟩
  have HN4 := Lib.hid hn4
  obtain ⟨n, hn⟩ : ∃ n, l.length = n := ⟨_, rfl⟩
  have h44 : n4 = min 4 n := by rw [← hn4, List.length_take, hn]
  obtain ⟨m, hm⟩ : ∃ m, zs.length = m := ⟨_, rfl⟩
  have HM := Lib.hid hm
  simp only [hn, hm]
  rw [hn] at hc
  obtain ⟨l4, hl4⟩ : ∃ l4, l.take 4 = l4 := ⟨_, rfl⟩
  rw [hl4] at HL HN4
  obtain ⟨i0, hi0, hx0, hx1, hx2⟩ := info_parts info_told
  have HNo := Lib.hid (fun (w : World) => (show Calls Try.prog 20 #[.int .i64 1] w fun e w' => e = .returned (.int .i64 4) ∧ w = w' from by
    have := rnodes_any 1 w
    rwa [nodesS_in (by omega) (by omega)] at this))
  clear w0 w1 w2 hn4 hn hm hl4
  by_cases h4 : 4 < n
  · have R1 : ∀ (w : World), (Instr.slice 37 (.slice A n c) none (some (.int .i64 4)) none).run Try.prog w = .ok (.slice A 4 c) w := fun w => slice_head (w := w) A (n := n) (c := c) (k := 4) (by omega)
    obtain rfl : n4 = 4 := by omega
    have g4 : decide ((4 : Int) < (n : Int)) = true := decide_eq_true (by omega)
    clear h44 hc
    go_enter Try.func8, Try.ntmps8
    go_wp2_with fail
    refine (rt_new (f := 1) (n := 3) (by omega) (by omega) (by omega) (by omega) w w (Below.refl _ _)).mono ?_
    rintro e w3 ⟨t1, rfl, hR1, -, -⟩
    have HR1 := Lib.hid hR1
    clear hR1
    go_wp2_with fail
    refine (rt_new (f := 1) (n := 3) (by omega) (by omega) (by omega) (by omega) w w3 HR1.out.low).mono ?_
    rintro e w4 ⟨t2, rfl, hR2, hb2, hlt2⟩
    have HT := Lib.hid (show Two13 w 1 3 t1 (.slice none 0 0) [] t2 (.slice none 0 0) [] w4 from ⟨HR1.out.below hb2, hR2, fun k h1 h2 => by
      have h3 := HR1.out.tab.lt h1
      rcases h2 with h2 | h2
      · omega
      · cases h2⟩)
    clear hR2 hb2 hlt2 HR1
    go_wp2_with fail
    go_loopw [11, 46] (fun v x wr => ∃ (i : Nat) (out : List (Rq × Nat)), x = .int .i64 i ∧ i ≤ 4 ∧ out.length ≤ 6 * i ∧ Hid (To w4 l4 out v wr)) (fun _ x _ => 4 - (intOf x).toNat)
    case atStart => exact ⟨0, [], rfl, Nat.zero_le _, Nat.zero_le _, World.ownsRow_nil _ _ _ _, Below.refl _ _, (fun p hp => by cases hp)⟩
    case round =>
      obtain ⟨i, out, rfl, hi, hol, HS⟩ := hrel
      by_cases hlt : i < 4
      · have hii0 : (i : Int) < (4 : Int) := by omega
        have gi0 : decide ((i : Int) < (4 : Int)) = true := decide_eq_true hii0
        go_wp2_with fail
        go_loopw [11, 13] (fun v x wr => ∃ (k : Nat) (out : List (Rq × Nat)), x = .int .i64 k ∧ k ≤ m ∧ k ≤ 6 ∧ out.length ≤ 6 * i + k ∧ Hid (To w4 l4 out v wr)) (fun _ x _ => m - (intOf x).toNat)
        case atStart => exact ⟨0, out, rfl, Nat.zero_le _, Nat.zero_le _, by omega, HS⟩
        case round =>
          obtain ⟨k, out, rfl, hk, hk6, hol, HS⟩ := hrel
          by_cases hkl : k < m ∧ k < 6
          · obtain ⟨hk1, hk2⟩ := hkl
            have hil : i < l4.length := by rw [HN4.out]; exact hlt
            have hlow4 := HT.out.r1.low.trans (HS.out.low.mono HT.out.r1.low.size)
            obtain ⟨ad, rfl, hab, c0, c1, c2, c3, c4, c5⟩ := (HL.out.below hlow4 (Nat.le_refl _)).req hil
            have HMem := Lib.hid (List.getElem_mem hil)
            obtain ⟨r, hr⟩ : ∃ r, l4[i] = r := ⟨_, rfl⟩
            rw [hr] at c0 c1 c2 c3 c4 c5 HMem
            obtain ⟨ad2, z, rfl, hab2, cz, -, -⟩ := (HZ.out.has.below hlow4 (Nat.le_refl _)).int (show k < zs.length by rw [HM.out]; exact hk1)
            obtain ⟨y, hy⟩ : ∃ y, wrap64 (z + i) = y := ⟨_, rfl⟩
            have hy2 : IntKind.i64.wrap (z + i) = y := by rw [← hy, IntKind.wrap_i64]; unfold wrap64; omega
            have hyb : -9223372036854775808 ≤ y ∧ y ≤ 9223372036854775807 := by rw [← hy]; unfold wrap64; omega
            have HW4 := Lib.hid (fun w => within_any y 4 (by omega) (by omega) hyb.1 hyb.2 w)
            obtain ⟨kk, hkk⟩ : ∃ kk : Nat, y % 4 = kk := ⟨(y % 4).toNat, by omega⟩
            rw [hkk] at HW4
            have HKK := Lib.hid (show kk < 4 by omega)
            obtain ⟨Av, cv, rfl, -, -⟩ := own_slice HS.out.own
            have hk1i : (k : Int) < (m : Int) := by omega
            have hlti : (i : Int) < (4 : Int) := by omega
            have q0 : wr.drew.cell? (ad.add (i * 6)) = some (.int .i64 r.cl) := c0
            have q1 : wr.drew.cell? ⟨(ad.add (i * 6)).block, (ad.add (i * 6)).off + 1, none⟩ = some (.int .i64 r.tm) := c1
            have q2 : wr.drew.cell? ⟨(ad.add (i * 6)).block, (ad.add (i * 6)).off + 2, none⟩ = some (.int .i64 r.kd) := c2
            have q3 : wr.drew.cell? ⟨(ad.add (i * 6)).block, (ad.add (i * 6)).off + 3, none⟩ = some (.int .i64 r.ky) := c3
            have q4 : wr.drew.cell? ⟨(ad.add (i * 6)).block, (ad.add (i * 6)).off + 4, none⟩ = some (.int .i64 r.vl) := c4
            have q5 : wr.drew.cell? ⟨(ad.add (i * 6)).block, (ad.add (i * 6)).off + 5, none⟩ = some (.int .i64 r.sg) := c5
            have qz : wr.drew.cell? (ad2.add k) = some (.int .i64 z) := cz
            have HB7 := Lib.hid (show Below wr.heap.size wr (wr.alloc (.cells #[.int .i64 r.cl, .int .i64 r.tm, .int .i64 r.kd, .int .i64 r.ky, .int .i64 r.vl, .int .i64 r.sg, .int .i64 (kk : Nat)] 59)).drew from Below.trans ((Below.refl _ _).alloc (Nat.le_refl _) _) ⟨rfl, rfl, rfl, Nat.le_refl _, fun _ _ => rfl⟩)
            have HNw := Lib.hid (show Has (wr.alloc (.cells #[.int .i64 r.cl, .int .i64 r.tm, .int .i64 r.kd, .int .i64 r.ky, .int .i64 r.vl, .int .i64 r.sg, .int .i64 (kk : Nat)] 59)).drew (wr.heap.size + 1) (some ⟨wr.heap.size, 0, none⟩) (toldCells [(r, kk)]) from (Has.fresh wr #[.int .i64 r.cl, .int .i64 r.tm, .int .i64 r.kd, .int .i64 r.ky, .int .i64 r.vl, .int .i64 r.sg, .int .i64 (kk : Nat)] 59).drew)
            have HOw := Lib.hid (below_own HS.out.own HB7.out (Nat.le_refl _))
            have HOne := Lib.hid (toldCells_one [(r, kk)])
            have HM1 := Lib.hid (show out.length + 1 ≤ maxLen by unfold maxLen; omega)
            have HM2 := Lib.hid (show (out.length + 1) * 56 ≤ 140737488355328 by omega)
            have HM3 := Lib.hid (show w4.heap.size ≤ (wr.alloc (.cells #[.int .i64 r.cl, .int .i64 r.tm, .int .i64 r.kd, .int .i64 r.ky, .int .i64 r.vl, .int .i64 r.sg, .int .i64 (kk : Nat)] 59)).drew.heap.size from Nat.le_trans HS.out.low.size HB7.out.size)
            have HLow6 := Lib.hid (fun (v6 : Value) (w6 : World) (ho : w6.ownsRow w4.heap.size 59 7 v6 (out.length + 1) (toldCells out ++ toldCells [(r, kk)])) (hg : (wr.alloc (.cells #[.int .i64 r.cl, .int .i64 r.tm, .int .i64 r.kd, .int .i64 r.ky, .int .i64 r.vl, .int .i64 r.sg, .int .i64 (kk : Nat)] 59)).drew.grownBy w6 (Value.slice Av out.length cv).ownBlock) => show Below w4.heap.size w4 w6 from
              (HS.out.low.trans (HB7.out.mono HS.out.low.size)).grown hg HM3.out (fun k hk => (HOw.out.lt k hk).1))
            have HK := Lib.hid (fun (v6 : Value) (w6 : World) (ho : w6.ownsRow w4.heap.size 59 7 v6 (out.length + 1) (toldCells out ++ toldCells [(r, kk)])) (hg : (wr.alloc (.cells #[.int .i64 r.cl, .int .i64 r.tm, .int .i64 r.kd, .int .i64 r.ky, .int .i64 r.vl, .int .i64 r.sg, .int .i64 (kk : Nat)] 59)).drew.grownBy w6 (Value.slice Av out.length cv).ownBlock) => show (w6.cell? (ad.add (i * 6)) = some (.int .i64 r.cl) ∧ w6.cell? ⟨(ad.add (i * 6)).block, (ad.add (i * 6)).off + 1, none⟩ = some (.int .i64 r.tm) ∧ w6.cell? ⟨(ad.add (i * 6)).block, (ad.add (i * 6)).off + 2, none⟩ = some (.int .i64 r.kd) ∧ w6.cell? ⟨(ad.add (i * 6)).block, (ad.add (i * 6)).off + 3, none⟩ = some (.int .i64 r.ky) ∧ w6.cell? ⟨(ad.add (i * 6)).block, (ad.add (i * 6)).off + 4, none⟩ = some (.int .i64 r.vl) ∧ w6.cell? ⟨(ad.add (i * 6)).block, (ad.add (i * 6)).off + 5, none⟩ = some (.int .i64 r.sg) ∧ w6.cell? (ad2.add k) = some (.int .i64 z)) from by
              have hb : ∀ g, g < w.heap.size → w6.heap[g]? = wr.heap[g]? := fun g hg2 => ((HLow6.out v6 w6 ho hg).block g (Nat.lt_of_lt_of_le hg2 HT.out.r1.low.size)).trans (HS.out.low.block g (Nat.lt_of_lt_of_le hg2 HT.out.r1.low.size)).symm
              have h1 := hb _ hab
              have h2 := hb _ hab2
              have q : ∀ j, w6.cell? ⟨(ad.add (i * 6)).block, j, none⟩ = wr.cell? ⟨(ad.add (i * 6)).block, j, none⟩ := fun j => World.cell?_of_block (a := ⟨(ad.add (i * 6)).block, j, none⟩) (by rw [addr_block]; exact h1)
              exact ⟨(World.cell?_of_block (by rw [addr_block]; exact h1)).trans c0, (q _).trans c1, (q _).trans c2, (q _).trans c3, (q _).trans c4, (q _).trans c5, (World.cell?_of_block (by rw [addr_block]; exact h2)).trans cz⟩)
            have hlt1 : ad.block < wr.heap.size := Nat.lt_of_lt_of_le hab (Nat.le_trans HT.out.r1.low.size HS.out.low.size)
            have hlt2 : ad2.block < wr.heap.size := Nat.lt_of_lt_of_le hab2 (Nat.le_trans HT.out.r1.low.size HS.out.low.size)
            have hq0 : (wr.alloc (.cells #[.int .i64 r.cl, .int .i64 r.tm, .int .i64 r.kd, .int .i64 r.ky, .int .i64 r.vl, .int .i64 r.sg, .int .i64 (kk : Nat)] 59)).drew.cell? (ad.add (i * 6)) = some (.int .i64 r.cl) ∧ (wr.alloc (.cells #[.int .i64 r.cl, .int .i64 r.tm, .int .i64 r.kd, .int .i64 r.ky, .int .i64 r.vl, .int .i64 r.sg, .int .i64 (kk : Nat)] 59)).drew.cell? ⟨(ad.add (i * 6)).block, (ad.add (i * 6)).off + 1, none⟩ = some (.int .i64 r.tm) ∧ (wr.alloc (.cells #[.int .i64 r.cl, .int .i64 r.tm, .int .i64 r.kd, .int .i64 r.ky, .int .i64 r.vl, .int .i64 r.sg, .int .i64 (kk : Nat)] 59)).drew.cell? ⟨(ad.add (i * 6)).block, (ad.add (i * 6)).off + 2, none⟩ = some (.int .i64 r.kd) ∧ (wr.alloc (.cells #[.int .i64 r.cl, .int .i64 r.tm, .int .i64 r.kd, .int .i64 r.ky, .int .i64 r.vl, .int .i64 r.sg, .int .i64 (kk : Nat)] 59)).drew.cell? ⟨(ad.add (i * 6)).block, (ad.add (i * 6)).off + 3, none⟩ = some (.int .i64 r.ky) ∧ (wr.alloc (.cells #[.int .i64 r.cl, .int .i64 r.tm, .int .i64 r.kd, .int .i64 r.ky, .int .i64 r.vl, .int .i64 r.sg, .int .i64 (kk : Nat)] 59)).drew.cell? ⟨(ad.add (i * 6)).block, (ad.add (i * 6)).off + 4, none⟩ = some (.int .i64 r.vl) ∧ (wr.alloc (.cells #[.int .i64 r.cl, .int .i64 r.tm, .int .i64 r.kd, .int .i64 r.ky, .int .i64 r.vl, .int .i64 r.sg, .int .i64 (kk : Nat)] 59)).drew.cell? ⟨(ad.add (i * 6)).block, (ad.add (i * 6)).off + 5, none⟩ = some (.int .i64 r.sg) ∧ (wr.alloc (.cells #[.int .i64 r.cl, .int .i64 r.tm, .int .i64 r.kd, .int .i64 r.ky, .int .i64 r.vl, .int .i64 r.sg, .int .i64 (kk : Nat)] 59)).drew.cell? (ad2.add k) = some (.int .i64 z) := by
              have q : ∀ j, (wr.alloc (.cells #[.int .i64 r.cl, .int .i64 r.tm, .int .i64 r.kd, .int .i64 r.ky, .int .i64 r.vl, .int .i64 r.sg, .int .i64 (kk : Nat)] 59)).drew.cell? ⟨(ad.add (i * 6)).block, j, none⟩ = wr.cell? ⟨(ad.add (i * 6)).block, j, none⟩ := fun j => HB7.out.cell (p := ⟨(ad.add (i * 6)).block, j, none⟩) (by rw [addr_block]; exact hlt1)
              exact ⟨(HB7.out.cell (by rw [addr_block]; exact hlt1)).trans c0, (q _).trans c1, (q _).trans c2, (q _).trans c3, (q _).trans c4, (q _).trans c5, (HB7.out.cell (by rw [addr_block]; exact hlt2)).trans cz⟩
            clear hlt1 hlt2
            clear hy hyb hkk hab hab2 hr hil hlow4 c0 c1 c2 c3 c4 c5 cz
            go_wp2_with fail
            go_region_held3 (fun w' => w'.cell? (ad.add (i * 6)) = some (.int .i64 r.cl) ∧ w'.cell? ⟨(ad.add (i * 6)).block, (ad.add (i * 6)).off + 1, none⟩ = some (.int .i64 r.tm) ∧ w'.cell? ⟨(ad.add (i * 6)).block, (ad.add (i * 6)).off + 2, none⟩ = some (.int .i64 r.kd) ∧ w'.cell? ⟨(ad.add (i * 6)).block, (ad.add (i * 6)).off + 3, none⟩ = some (.int .i64 r.ky) ∧ w'.cell? ⟨(ad.add (i * 6)).block, (ad.add (i * 6)).off + 4, none⟩ = some (.int .i64 r.vl) ∧ w'.cell? ⟨(ad.add (i * 6)).block, (ad.add (i * 6)).off + 5, none⟩ = some (.int .i64 r.sg) ∧ w'.cell? (ad2.add k) = some (.int .i64 z)) (first | exact ⟨q0, q1, q2, q3, q4, q5, qz⟩ | exact hq0 | exact hq2 | go_keep)
              (first
              | (go_at_call 20; refine (HNo.out _).mono ?_; rintro e w5 ⟨rfl, rfl⟩)
              | (go_at_call 9; refine (HW4.out _).mono ?_; rintro e w5 ⟨rfl, rfl⟩)
              | (refine step_apps rfl (.tmp 59) (.tmp 73) 57 rfl w4.heap.size 59 i0 (.agg #[.int .i64 0, .int .i64 0, .int .i64 0, .int .i64 0, .int .i64 0, .int .i64 0, .int .i64 0]) 7 56 Try.underlying57 hi0 hx0 hx1 hx2 rfl (by decide) (.slice Av out.length cv) _ _ rfl HOw.out _ (some ⟨wr.heap.size, 0, none⟩) 1 1 (toldCells [(r, kk)]) rfl rfl HNw.out (fun h => nomatch h) HOne.out HM1.out HM2.out HM3.out ?_; intro vb w6 hob hgb hlb; obtain ⟨Ab, cb, rfl, _, _⟩ := own_slice hob; have hq2 := HK.out _ _ hob hgb))
            have HS6 := Lib.hid (HS.out.add hob (HLow6.out _ _ hob hgb) HMem.out HKK.out)
            clear hob hgb hlb hq0 hq2 HK HLow6 HOw HNw q0 q1 q2 q3 q4 q5 qz
            go_wp2_with fail
            go_roundw
            case rel => exact ⟨k + 1, out ++ [(r, kk)], by go_num, by omega, by omega, by rw [List.length_append]; show out.length + 1 ≤ _; omega, HS6⟩
            case measure => simp [intOf]; omega
          · by_cases hk1 : k < m
            · have hk2 : k = 6 := by omega
              subst hk2
              go_wp2_with fail
              go_roundw
              case rel => exact ⟨i + 1, out, by go_num, by omega, by omega, HS⟩
              case measure => simp [intOf]; omega
            · have g1 : decide ((k : Int) < (m : Int)) = false := decide_eq_false (by omega)
              go_wp2_with fail
              go_roundw
              case rel => exact ⟨i + 1, out, by go_num, by omega, by omega, HS⟩
              case measure => simp [intOf]; omega
      · obtain rfl : i = 4 := by omega
        obtain ⟨Av, cv, rfl, -, -⟩ := own_slice HS.out.own
        have HT4 := Lib.hid (HT.out.below HS.out.low)
        have HO4 := Lib.hid HS.out.own
        have HGd := Lib.hid HS.out.good
        obtain ⟨N, hN⟩ : ∃ N, out.length = N := ⟨_, rfl⟩
        rw [hN] at HO4 hol
        have HNo2 := Lib.hid hN
        have HWt := Lib.hid (fun w => within_any tn ((N : Int) + 1) (by omega) (by omega) HTn.out.1 HTn.out.2 w)
        have hm0 := Int.emod_nonneg tn (show ((N : Int) + 1) ≠ 0 by omega)
        have hm1 := Int.emod_lt_of_pos tn (show 0 < (N : Int) + 1 by omega)
        obtain ⟨aa, haa⟩ : ∃ a : Nat, tn % ((N : Int) + 1) = a := ⟨(tn % ((N : Int) + 1)).toNat, by omega⟩
        rw [haa] at HWt hm1
        have haN : aa ≤ N := by omega
        have HD0 := Lib.hid ((ord_new l4).congr (T' := toldN out 0) (fun r n => ⟨False.elim, fun ⟨j, h1, _⟩ => absurd h1 (Nat.not_lt_zero j)⟩))
        have HE0 := Lib.hid ((ord_new l4).congr (T' := turnN out aa 0) (fun r n => ⟨False.elim, fun ⟨j, h1, _⟩ => absurd h1 (Nat.not_lt_zero j)⟩))
        have HL44 := Lib.hid (show l4.length ≤ 4 by rw [HN4.out]; omega)
        simp only [hN]
        clear hm0 hm1 haa HS hN
        go_wp2_with fail
        refine (HWt.out _).mono ?_
        rintro e w5 ⟨rfl, rfl⟩
        go_wp2_with fail
        go_loopw [83] (fun x wr => ∃ (i : Nat) (v1 : Value) (L1 : List Tr) (v2 : Value) (L2 : List Tr), x = .int .i64 i ∧ i ≤ N ∧ Hid (Two13 w 1 3 t1 v1 L1 t2 v2 L2 wr) ∧ Hid (wr.ownsRow w4.heap.size 59 7 (.slice Av N cv) N (toldCells out)) ∧ Hid (Od13 l4 (toldN out i) L1) ∧ Hid (Od13 l4 (turnN out aa i) L2)) (fun x _ => N - (intOf x).toNat)
        case atStart => exact ⟨0, _, _, _, _, rfl, Nat.zero_le _, HT4, HO4, HD0, HE0⟩
        case round =>
          obtain ⟨i, v1, L1, v2, L2, rfl, hi, HT5, HO5, HD, HE⟩ := hrel
          by_cases hlt : i < N
          · have hio : i < out.length := by rw [HNo2.out]; exact hlt
            obtain ⟨⟨r, kk⟩, hp1⟩ : ∃ p, out[i]? = some p := ⟨_, List.getElem?_eq_getElem hio⟩
            obtain ⟨ad, hA, hab, c0, c1, c2, c3, c4, c5, c6⟩ := told_at (has_rows HO5.out) hp1
            subst hA
            simp only at c0 c1 c2 c3 c4 c5 c6
            obtain ⟨hr4, hk4⟩ := HGd.out _ (List.mem_of_getElem? hp1)
            have HP1 := Lib.hid ((pput_any (w := wr.drew) (HT5.out.r1.tab.drewN 1) r kk 5).mono (R' := fun e w' => ∃ b1 b2 e3, e = .returned (.tuple #[.bool b1, .bool b2, .int .i64 e3]) ∧ TbPost wr.drew t1 v1 1 3 (putT 1 3 L1 r kk 5).2 w') fun _ _ he => ⟨_, _, _, he.1, he.2⟩)
            have HD2 := Lib.hid ((HD.out.put HL44.out hr4 hk4).congr (told_next hp1))
            have HRow := Lib.hid (fun (wz : World) (hp : TbPost wr.drew t1 v1 1 3 (putT 1 3 L1 r kk 5).2 wz) => And.intro (hp.farRow (HT5.out.r1.tab.drewN 1) HO5.out.drew (by decide) (by decide)) ((HT5.out.below (wz := wr.drew) ⟨rfl, rfl, rfl, Nat.le_refl _, fun _ _ => rfl⟩).put hp))
            have HK := Lib.hid (fun (wz : World) (ho : wz.ownsRow w4.heap.size 59 7 (.slice (some ad) N cv) N (toldCells out)) => show (wz.cell? (ad.add (i * 7)) = some (.int .i64 r.cl) ∧ wz.cell? ⟨(ad.add (i * 7)).block, (ad.add (i * 7)).off + 1, none⟩ = some (.int .i64 r.tm) ∧ wz.cell? ⟨(ad.add (i * 7)).block, (ad.add (i * 7)).off + 2, none⟩ = some (.int .i64 r.kd) ∧ wz.cell? ⟨(ad.add (i * 7)).block, (ad.add (i * 7)).off + 3, none⟩ = some (.int .i64 r.ky) ∧ wz.cell? ⟨(ad.add (i * 7)).block, (ad.add (i * 7)).off + 4, none⟩ = some (.int .i64 r.vl) ∧ wz.cell? ⟨(ad.add (i * 7)).block, (ad.add (i * 7)).off + 5, none⟩ = some (.int .i64 r.sg) ∧ wz.cell? ⟨(ad.add (i * 7)).block, (ad.add (i * 7)).off + 6, none⟩ = some (.int .i64 (kk : Nat))) from by
              obtain ⟨ad', hA, _, h0, h1, h2, h3, h4, h5, h6⟩ := told_at (has_rows ho) hp1
              cases hA
              exact ⟨h0, h1, h2, h3, h4, h5, h6⟩)
            have hq1 := HK.out wr.drew HO5.out.drew
            have hii : (i : Int) < (N : Int) := by omega
            clear hio hab hr4 hk4 hp1
            go_wp2_with fail
            go_region_held3 (fun w' => w'.cell? (ad.add (i * 7)) = some (.int .i64 r.cl) ∧ w'.cell? ⟨(ad.add (i * 7)).block, (ad.add (i * 7)).off + 1, none⟩ = some (.int .i64 r.tm) ∧ w'.cell? ⟨(ad.add (i * 7)).block, (ad.add (i * 7)).off + 2, none⟩ = some (.int .i64 r.kd) ∧ w'.cell? ⟨(ad.add (i * 7)).block, (ad.add (i * 7)).off + 3, none⟩ = some (.int .i64 r.ky) ∧ w'.cell? ⟨(ad.add (i * 7)).block, (ad.add (i * 7)).off + 4, none⟩ = some (.int .i64 r.vl) ∧ w'.cell? ⟨(ad.add (i * 7)).block, (ad.add (i * 7)).off + 5, none⟩ = some (.int .i64 r.sg) ∧ w'.cell? ⟨(ad.add (i * 7)).block, (ad.add (i * 7)).off + 6, none⟩ = some (.int .i64 (kk : Nat))) (first | exact hq1 | exact hq2 | go_keep)
              ((go_at_call 12; refine HP1.out.mono ?_; rintro e w6 ⟨p1, p2, p3, rfl, hp⟩; have HP := Lib.hid (HRow.out _ hp); clear hp; have hq2 := HK.out _ HP.out.1))
            obtain ⟨ho6, v6, hT6⟩ := HP.out
            have HO6 := Lib.hid ho6
            have HT6 := Lib.hid hT6
            clear HP ho6 hT6 hq1 hq2 c0 c1 c2 c3 c4 c5 c6 HK HRow HP1 HO5 HT5 HD
            obtain ⟨jn, hjn⟩ : ∃ j, (i + aa) % N = j := ⟨_, rfl⟩
            have hjN : jn < N := by rw [← hjn]; exact Nat.mod_lt _ (by omega)
            have hjm : ((i : Int) + (aa : Int)) % (N : Int) = (jn : Int) := by rw [← hjn, Int.natCast_emod, Int.natCast_add]
            have hjt : ((i : Int) + (aa : Int)).tmod (N : Int) = (jn : Int) := by rw [Int.tmod_eq_emod_of_nonneg (by omega)]; exact hjm
            have hjo : jn < out.length := by rw [HNo2.out]; exact hjN
            obtain ⟨⟨s, ks⟩, hp2⟩ : ∃ p, out[jn]? = some p := ⟨_, List.getElem?_eq_getElem hjo⟩
            have HE2 := Lib.hid ((HE.out.put HL44.out (HGd.out _ (List.mem_of_getElem? hp2)).1 (HGd.out _ (List.mem_of_getElem? hp2)).2).congr (turn_next (at_ := aa) (i := i) (by rw [HNo2.out, hjn]; exact hp2)))
            obtain ⟨ad', hA, hab, c0, c1, c2, c3, c4, c5, c6⟩ := told_at (has_rows HO6.out) hp2
            cases hA
            simp only at c0 c1 c2 c3 c4 c5 c6
            have HP1 := Lib.hid ((pput_any (w := w6.drew) (HT6.out.r2.tab.drewN 1) s ks 5).mono (R' := fun e w' => ∃ b1 b2 e3, e = .returned (.tuple #[.bool b1, .bool b2, .int .i64 e3]) ∧ TbPost w6.drew t2 v2 1 3 (putT 1 3 L2 s ks 5).2 w') fun _ _ he => ⟨_, _, _, he.1, he.2⟩)
            have HRow := Lib.hid (fun (wz : World) (hp : TbPost w6.drew t2 v2 1 3 (putT 1 3 L2 s ks 5).2 wz) => And.intro (hp.farRow (HT6.out.r2.tab.drewN 1) HO6.out.drew (by decide) (by decide)) ((HT6.out.below (wz := w6.drew) ⟨rfl, rfl, rfl, Nat.le_refl _, fun _ _ => rfl⟩).swap.put hp))
            have HK := Lib.hid (fun (wz : World) (ho : wz.ownsRow w4.heap.size 59 7 (.slice (some ad) N cv) N (toldCells out)) => show (wz.cell? (ad.add (jn * 7)) = some (.int .i64 s.cl) ∧ wz.cell? ⟨(ad.add (jn * 7)).block, (ad.add (jn * 7)).off + 1, none⟩ = some (.int .i64 s.tm) ∧ wz.cell? ⟨(ad.add (jn * 7)).block, (ad.add (jn * 7)).off + 2, none⟩ = some (.int .i64 s.kd) ∧ wz.cell? ⟨(ad.add (jn * 7)).block, (ad.add (jn * 7)).off + 3, none⟩ = some (.int .i64 s.ky) ∧ wz.cell? ⟨(ad.add (jn * 7)).block, (ad.add (jn * 7)).off + 4, none⟩ = some (.int .i64 s.vl) ∧ wz.cell? ⟨(ad.add (jn * 7)).block, (ad.add (jn * 7)).off + 5, none⟩ = some (.int .i64 s.sg) ∧ wz.cell? ⟨(ad.add (jn * 7)).block, (ad.add (jn * 7)).off + 6, none⟩ = some (.int .i64 (ks : Nat))) from by
              obtain ⟨ad', hA, _, h0, h1, h2, h3, h4, h5, h6⟩ := told_at (has_rows ho) hp2
              cases hA
              exact ⟨h0, h1, h2, h3, h4, h5, h6⟩)
            have hq1 := HK.out w6.drew HO6.out.drew
            have hjj : (jn : Int) < (N : Int) := by omega
            have hN0 : ((N : Int) == 0) = false := by rw [beq_eq_false_iff_ne]; omega
            have hN1 : ¬ (N : Int) = 0 := by omega
            have hN2 : ¬ N = 0 := by omega
            clear hab hp2 hjo hjn
            go_wp2_with fail
            go_region_held3 (fun w' => w'.cell? (ad.add (jn * 7)) = some (.int .i64 s.cl) ∧ w'.cell? ⟨(ad.add (jn * 7)).block, (ad.add (jn * 7)).off + 1, none⟩ = some (.int .i64 s.tm) ∧ w'.cell? ⟨(ad.add (jn * 7)).block, (ad.add (jn * 7)).off + 2, none⟩ = some (.int .i64 s.kd) ∧ w'.cell? ⟨(ad.add (jn * 7)).block, (ad.add (jn * 7)).off + 3, none⟩ = some (.int .i64 s.ky) ∧ w'.cell? ⟨(ad.add (jn * 7)).block, (ad.add (jn * 7)).off + 4, none⟩ = some (.int .i64 s.vl) ∧ w'.cell? ⟨(ad.add (jn * 7)).block, (ad.add (jn * 7)).off + 5, none⟩ = some (.int .i64 s.sg) ∧ w'.cell? ⟨(ad.add (jn * 7)).block, (ad.add (jn * 7)).off + 6, none⟩ = some (.int .i64 (ks : Nat))) (first | exact hq1 | exact hq2 | go_keep)
              ((go_at_call 12; refine HP1.out.mono ?_; rintro e w7 ⟨p4, p5, p6, rfl, hp⟩; have HP := Lib.hid (HRow.out _ hp); clear hp; have hq2 := HK.out _ HP.out.1))
            obtain ⟨ho7, v7, hTw7⟩ := HP.out
            have HO7 := Lib.hid ho7
            have HTw7 := Lib.hid hTw7.swap
            clear HP ho7 hTw7 hq1 hq2 c0 c1 c2 c3 c4 c5 c6 HK HRow HP1 HO6 HT6 HE
            go_wp2_with fail
            go_roundw
            case rel => exact ⟨i + 1, v6, _, v7, _, by go_num, by omega, HTw7, HO7, HD2, HE2⟩
            case measure => simp [intOf]; omega
          · obtain rfl : i = N := by omega
            obtain ⟨hs1, hs2⟩ := Od13.same (HD.out.congr (T' := turnN out aa i) (fun r n => by have := turn_all out (at_ := aa) (by rw [HNo2.out]; exact haN) r n; rwa [HNo2.out] at this)) HE.out
            have HSm1 := Lib.hid hs1
            have HSm2 := Lib.hid hs2
            have HR16 := Lib.hid (show (rqs L1).length ≤ 16 ∧ (readyT 1 L1).length ≤ 16 from ⟨by rw [rqs_len]; exact HD.out.ok.most, by unfold readyT; rw [rqs_len]; exact Nat.le_trans (List.length_filter_le _ _) HD.out.ok.most⟩)
            clear hs1 hs2
            have HA := Lib.hid (pall_any HT5.out.r1.tab)
            go_wp2_with fail
            refine HA.out.mono ?_
            rintro e w6 ⟨va, rfl, hoa, hba⟩
            have HT6 := Lib.hid (HT5.out.below hba)
            have HOa := Lib.hid hoa
            clear hoa hba
            have HA2 := Lib.hid (pall_any HT6.out.r2.tab)
            rw [← HSm1.out] at HA2
            go_wp2_with fail
            refine HA2.out.mono ?_
            rintro e w7 ⟨vb, rfl, hob, hbb⟩
            have HTw7 := Lib.hid (HT6.out.below hbb)
            have HOa7 := Lib.hid (below_own HOa.out hbb (Nat.le_refl _))
            have HOb := Lib.hid hob
            clear hob hbb
            obtain ⟨Aa, ca, rfl, -, -⟩ := own_slice HOa7.out
            obtain ⟨Ab, cb, rfl, -, -⟩ := own_slice HOb.out
            have HS := Lib.hid (same_reqs Aa Ab ca cb (rqs L1) (rqs L1) _ w7 (by have := HR16.out.1; omega) (has_rows HOa7.out) (has_rows HOb.out))
            rw [show sameL (rqs L1) (rqs L1) = true by simp [sameL]] at HS
            go_wp2_with fail
            refine HS.out.mono ?_
            rintro e w8 ⟨rfl, nq, rfl⟩
            have HT8 := Lib.hid (HTw7.out.below (wz := w7.drewN nq) ⟨rfl, rfl, rfl, Nat.le_refl _, fun _ _ => rfl⟩)
            clear HS HOa7 HOb
            have HA := Lib.hid (preadies_any HT8.out.r1.tab)
            go_wp2_with fail
            refine HA.out.mono ?_
            rintro e w9 ⟨va, rfl, hoa, hba⟩
            have HT9 := Lib.hid (HT8.out.below hba)
            have HOa := Lib.hid hoa
            clear hoa hba
            have HA2 := Lib.hid (preadies_any HT9.out.r2.tab)
            rw [← HSm2.out] at HA2
            go_wp2_with fail
            refine HA2.out.mono ?_
            rintro e w10 ⟨vb, rfl, hob, hbb⟩
            have HT10 := Lib.hid (HT9.out.below hbb)
            have HOa7 := Lib.hid (below_own HOa.out hbb (Nat.le_refl _))
            have HOb := Lib.hid hob
            clear hob hbb
            obtain ⟨Aa, ca, rfl, -, -⟩ := own_slice HOa7.out
            obtain ⟨Ab, cb, rfl, -, -⟩ := own_slice HOb.out
            have HS := Lib.hid (same_reqs Aa Ab ca cb (readyT 1 L1) (readyT 1 L1) _ w10 (by have := HR16.out.2; omega) (has_rows HOa7.out) (has_rows HOb.out))
            rw [show sameL (readyT 1 L1) (readyT 1 L1) = true by simp [sameL]] at HS
            go_wp2_with fail
            refine HS.out.mono ?_
            rintro e w11 ⟨rfl, nq2, rfl⟩
            have HT11 := Lib.hid (HT10.out.below (wz := w10.drewN nq2) ⟨rfl, rfl, rfl, Nat.le_refl _, fun _ _ => rfl⟩)
            go_wp2_with fail
            refine (wakes13_any _).mono ?_
            rintro e w12 ⟨rfl, hb12⟩
            have HT12 := Lib.hid (HT11.out.below hb12)
            clear hb12
            go_wp2_with fail
            go_ret
            exact ⟨rfl, HT12.out.r1.low⟩
  · obtain rfl : n4 = n := by omega
    have g4 : decide ((4 : Int) < (n4 : Int)) = false := decide_eq_false (by omega)
    clear h44 hc
    go_enter Try.func8, Try.ntmps8
    go_wp2_with fail
    refine (rt_new (f := 1) (n := 3) (by omega) (by omega) (by omega) (by omega) w w (Below.refl _ _)).mono ?_
    rintro e w3 ⟨t1, rfl, hR1, -, -⟩
    have HR1 := Lib.hid hR1
    clear hR1
    go_wp2_with fail
    refine (rt_new (f := 1) (n := 3) (by omega) (by omega) (by omega) (by omega) w w3 HR1.out.low).mono ?_
    rintro e w4 ⟨t2, rfl, hR2, hb2, hlt2⟩
    have HT := Lib.hid (show Two13 w 1 3 t1 (.slice none 0 0) [] t2 (.slice none 0 0) [] w4 from ⟨HR1.out.below hb2, hR2, fun k h1 h2 => by
      have h3 := HR1.out.tab.lt h1
      rcases h2 with h2 | h2
      · omega
      · cases h2⟩)
    clear hR2 hb2 hlt2 HR1
    go_wp2_with fail
    go_loopw [11, 46] (fun v x wr => ∃ (i : Nat) (out : List (Rq × Nat)), x = .int .i64 i ∧ i ≤ n4 ∧ out.length ≤ 6 * i ∧ Hid (To w4 l4 out v wr)) (fun _ x _ => n4 - (intOf x).toNat)
    case atStart => exact ⟨0, [], rfl, Nat.zero_le _, Nat.zero_le _, World.ownsRow_nil _ _ _ _, Below.refl _ _, (fun p hp => by cases hp)⟩
    case round =>
      obtain ⟨i, out, rfl, hi, hol, HS⟩ := hrel
      by_cases hlt : i < n4
      · have hii0 : (i : Int) < (n4 : Int) := by omega
        have gi0 : decide ((i : Int) < (n4 : Int)) = true := decide_eq_true hii0
        go_wp2_with fail
        go_loopw [11, 13] (fun v x wr => ∃ (k : Nat) (out : List (Rq × Nat)), x = .int .i64 k ∧ k ≤ m ∧ k ≤ 6 ∧ out.length ≤ 6 * i + k ∧ Hid (To w4 l4 out v wr)) (fun _ x _ => m - (intOf x).toNat)
        case atStart => exact ⟨0, out, rfl, Nat.zero_le _, Nat.zero_le _, by omega, HS⟩
        case round =>
          obtain ⟨k, out, rfl, hk, hk6, hol, HS⟩ := hrel
          by_cases hkl : k < m ∧ k < 6
          · obtain ⟨hk1, hk2⟩ := hkl
            have hil : i < l4.length := by rw [HN4.out]; exact hlt
            have hlow4 := HT.out.r1.low.trans (HS.out.low.mono HT.out.r1.low.size)
            obtain ⟨ad, rfl, hab, c0, c1, c2, c3, c4, c5⟩ := (HL.out.below hlow4 (Nat.le_refl _)).req hil
            have HMem := Lib.hid (List.getElem_mem hil)
            obtain ⟨r, hr⟩ : ∃ r, l4[i] = r := ⟨_, rfl⟩
            rw [hr] at c0 c1 c2 c3 c4 c5 HMem
            obtain ⟨ad2, z, rfl, hab2, cz, -, -⟩ := (HZ.out.has.below hlow4 (Nat.le_refl _)).int (show k < zs.length by rw [HM.out]; exact hk1)
            obtain ⟨y, hy⟩ : ∃ y, wrap64 (z + i) = y := ⟨_, rfl⟩
            have hy2 : IntKind.i64.wrap (z + i) = y := by rw [← hy, IntKind.wrap_i64]; unfold wrap64; omega
            have hyb : -9223372036854775808 ≤ y ∧ y ≤ 9223372036854775807 := by rw [← hy]; unfold wrap64; omega
            have HW4 := Lib.hid (fun w => within_any y 4 (by omega) (by omega) hyb.1 hyb.2 w)
            obtain ⟨kk, hkk⟩ : ∃ kk : Nat, y % 4 = kk := ⟨(y % 4).toNat, by omega⟩
            rw [hkk] at HW4
            have HKK := Lib.hid (show kk < 4 by omega)
            obtain ⟨Av, cv, rfl, -, -⟩ := own_slice HS.out.own
            have hk1i : (k : Int) < (m : Int) := by omega
            have hlti : (i : Int) < (n4 : Int) := by omega
            have q0 : wr.drew.cell? (ad.add (i * 6)) = some (.int .i64 r.cl) := c0
            have q1 : wr.drew.cell? ⟨(ad.add (i * 6)).block, (ad.add (i * 6)).off + 1, none⟩ = some (.int .i64 r.tm) := c1
            have q2 : wr.drew.cell? ⟨(ad.add (i * 6)).block, (ad.add (i * 6)).off + 2, none⟩ = some (.int .i64 r.kd) := c2
            have q3 : wr.drew.cell? ⟨(ad.add (i * 6)).block, (ad.add (i * 6)).off + 3, none⟩ = some (.int .i64 r.ky) := c3
            have q4 : wr.drew.cell? ⟨(ad.add (i * 6)).block, (ad.add (i * 6)).off + 4, none⟩ = some (.int .i64 r.vl) := c4
            have q5 : wr.drew.cell? ⟨(ad.add (i * 6)).block, (ad.add (i * 6)).off + 5, none⟩ = some (.int .i64 r.sg) := c5
            have qz : wr.drew.cell? (ad2.add k) = some (.int .i64 z) := cz
            have HB7 := Lib.hid (show Below wr.heap.size wr (wr.alloc (.cells #[.int .i64 r.cl, .int .i64 r.tm, .int .i64 r.kd, .int .i64 r.ky, .int .i64 r.vl, .int .i64 r.sg, .int .i64 (kk : Nat)] 59)).drew from Below.trans ((Below.refl _ _).alloc (Nat.le_refl _) _) ⟨rfl, rfl, rfl, Nat.le_refl _, fun _ _ => rfl⟩)
            have HNw := Lib.hid (show Has (wr.alloc (.cells #[.int .i64 r.cl, .int .i64 r.tm, .int .i64 r.kd, .int .i64 r.ky, .int .i64 r.vl, .int .i64 r.sg, .int .i64 (kk : Nat)] 59)).drew (wr.heap.size + 1) (some ⟨wr.heap.size, 0, none⟩) (toldCells [(r, kk)]) from (Has.fresh wr #[.int .i64 r.cl, .int .i64 r.tm, .int .i64 r.kd, .int .i64 r.ky, .int .i64 r.vl, .int .i64 r.sg, .int .i64 (kk : Nat)] 59).drew)
            have HOw := Lib.hid (below_own HS.out.own HB7.out (Nat.le_refl _))
            have HOne := Lib.hid (toldCells_one [(r, kk)])
            have HM1 := Lib.hid (show out.length + 1 ≤ maxLen by unfold maxLen; omega)
            have HM2 := Lib.hid (show (out.length + 1) * 56 ≤ 140737488355328 by omega)
            have HM3 := Lib.hid (show w4.heap.size ≤ (wr.alloc (.cells #[.int .i64 r.cl, .int .i64 r.tm, .int .i64 r.kd, .int .i64 r.ky, .int .i64 r.vl, .int .i64 r.sg, .int .i64 (kk : Nat)] 59)).drew.heap.size from Nat.le_trans HS.out.low.size HB7.out.size)
            have HLow6 := Lib.hid (fun (v6 : Value) (w6 : World) (ho : w6.ownsRow w4.heap.size 59 7 v6 (out.length + 1) (toldCells out ++ toldCells [(r, kk)])) (hg : (wr.alloc (.cells #[.int .i64 r.cl, .int .i64 r.tm, .int .i64 r.kd, .int .i64 r.ky, .int .i64 r.vl, .int .i64 r.sg, .int .i64 (kk : Nat)] 59)).drew.grownBy w6 (Value.slice Av out.length cv).ownBlock) => show Below w4.heap.size w4 w6 from
              (HS.out.low.trans (HB7.out.mono HS.out.low.size)).grown hg HM3.out (fun k hk => (HOw.out.lt k hk).1))
            have HK := Lib.hid (fun (v6 : Value) (w6 : World) (ho : w6.ownsRow w4.heap.size 59 7 v6 (out.length + 1) (toldCells out ++ toldCells [(r, kk)])) (hg : (wr.alloc (.cells #[.int .i64 r.cl, .int .i64 r.tm, .int .i64 r.kd, .int .i64 r.ky, .int .i64 r.vl, .int .i64 r.sg, .int .i64 (kk : Nat)] 59)).drew.grownBy w6 (Value.slice Av out.length cv).ownBlock) => show (w6.cell? (ad.add (i * 6)) = some (.int .i64 r.cl) ∧ w6.cell? ⟨(ad.add (i * 6)).block, (ad.add (i * 6)).off + 1, none⟩ = some (.int .i64 r.tm) ∧ w6.cell? ⟨(ad.add (i * 6)).block, (ad.add (i * 6)).off + 2, none⟩ = some (.int .i64 r.kd) ∧ w6.cell? ⟨(ad.add (i * 6)).block, (ad.add (i * 6)).off + 3, none⟩ = some (.int .i64 r.ky) ∧ w6.cell? ⟨(ad.add (i * 6)).block, (ad.add (i * 6)).off + 4, none⟩ = some (.int .i64 r.vl) ∧ w6.cell? ⟨(ad.add (i * 6)).block, (ad.add (i * 6)).off + 5, none⟩ = some (.int .i64 r.sg) ∧ w6.cell? (ad2.add k) = some (.int .i64 z)) from by
              have hb : ∀ g, g < w.heap.size → w6.heap[g]? = wr.heap[g]? := fun g hg2 => ((HLow6.out v6 w6 ho hg).block g (Nat.lt_of_lt_of_le hg2 HT.out.r1.low.size)).trans (HS.out.low.block g (Nat.lt_of_lt_of_le hg2 HT.out.r1.low.size)).symm
              have h1 := hb _ hab
              have h2 := hb _ hab2
              have q : ∀ j, w6.cell? ⟨(ad.add (i * 6)).block, j, none⟩ = wr.cell? ⟨(ad.add (i * 6)).block, j, none⟩ := fun j => World.cell?_of_block (a := ⟨(ad.add (i * 6)).block, j, none⟩) (by rw [addr_block]; exact h1)
              exact ⟨(World.cell?_of_block (by rw [addr_block]; exact h1)).trans c0, (q _).trans c1, (q _).trans c2, (q _).trans c3, (q _).trans c4, (q _).trans c5, (World.cell?_of_block (by rw [addr_block]; exact h2)).trans cz⟩)
            have hlt1 : ad.block < wr.heap.size := Nat.lt_of_lt_of_le hab (Nat.le_trans HT.out.r1.low.size HS.out.low.size)
            have hlt2 : ad2.block < wr.heap.size := Nat.lt_of_lt_of_le hab2 (Nat.le_trans HT.out.r1.low.size HS.out.low.size)
            have hq0 : (wr.alloc (.cells #[.int .i64 r.cl, .int .i64 r.tm, .int .i64 r.kd, .int .i64 r.ky, .int .i64 r.vl, .int .i64 r.sg, .int .i64 (kk : Nat)] 59)).drew.cell? (ad.add (i * 6)) = some (.int .i64 r.cl) ∧ (wr.alloc (.cells #[.int .i64 r.cl, .int .i64 r.tm, .int .i64 r.kd, .int .i64 r.ky, .int .i64 r.vl, .int .i64 r.sg, .int .i64 (kk : Nat)] 59)).drew.cell? ⟨(ad.add (i * 6)).block, (ad.add (i * 6)).off + 1, none⟩ = some (.int .i64 r.tm) ∧ (wr.alloc (.cells #[.int .i64 r.cl, .int .i64 r.tm, .int .i64 r.kd, .int .i64 r.ky, .int .i64 r.vl, .int .i64 r.sg, .int .i64 (kk : Nat)] 59)).drew.cell? ⟨(ad.add (i * 6)).block, (ad.add (i * 6)).off + 2, none⟩ = some (.int .i64 r.kd) ∧ (wr.alloc (.cells #[.int .i64 r.cl, .int .i64 r.tm, .int .i64 r.kd, .int .i64 r.ky, .int .i64 r.vl, .int .i64 r.sg, .int .i64 (kk : Nat)] 59)).drew.cell? ⟨(ad.add (i * 6)).block, (ad.add (i * 6)).off + 3, none⟩ = some (.int .i64 r.ky) ∧ (wr.alloc (.cells #[.int .i64 r.cl, .int .i64 r.tm, .int .i64 r.kd, .int .i64 r.ky, .int .i64 r.vl, .int .i64 r.sg, .int .i64 (kk : Nat)] 59)).drew.cell? ⟨(ad.add (i * 6)).block, (ad.add (i * 6)).off + 4, none⟩ = some (.int .i64 r.vl) ∧ (wr.alloc (.cells #[.int .i64 r.cl, .int .i64 r.tm, .int .i64 r.kd, .int .i64 r.ky, .int .i64 r.vl, .int .i64 r.sg, .int .i64 (kk : Nat)] 59)).drew.cell? ⟨(ad.add (i * 6)).block, (ad.add (i * 6)).off + 5, none⟩ = some (.int .i64 r.sg) ∧ (wr.alloc (.cells #[.int .i64 r.cl, .int .i64 r.tm, .int .i64 r.kd, .int .i64 r.ky, .int .i64 r.vl, .int .i64 r.sg, .int .i64 (kk : Nat)] 59)).drew.cell? (ad2.add k) = some (.int .i64 z) := by
              have q : ∀ j, (wr.alloc (.cells #[.int .i64 r.cl, .int .i64 r.tm, .int .i64 r.kd, .int .i64 r.ky, .int .i64 r.vl, .int .i64 r.sg, .int .i64 (kk : Nat)] 59)).drew.cell? ⟨(ad.add (i * 6)).block, j, none⟩ = wr.cell? ⟨(ad.add (i * 6)).block, j, none⟩ := fun j => HB7.out.cell (p := ⟨(ad.add (i * 6)).block, j, none⟩) (by rw [addr_block]; exact hlt1)
              exact ⟨(HB7.out.cell (by rw [addr_block]; exact hlt1)).trans c0, (q _).trans c1, (q _).trans c2, (q _).trans c3, (q _).trans c4, (q _).trans c5, (HB7.out.cell (by rw [addr_block]; exact hlt2)).trans cz⟩
            clear hlt1 hlt2
            clear hy hyb hkk hab hab2 hr hil hlow4 c0 c1 c2 c3 c4 c5 cz
            go_wp2_with fail
            go_region_held3 (fun w' => w'.cell? (ad.add (i * 6)) = some (.int .i64 r.cl) ∧ w'.cell? ⟨(ad.add (i * 6)).block, (ad.add (i * 6)).off + 1, none⟩ = some (.int .i64 r.tm) ∧ w'.cell? ⟨(ad.add (i * 6)).block, (ad.add (i * 6)).off + 2, none⟩ = some (.int .i64 r.kd) ∧ w'.cell? ⟨(ad.add (i * 6)).block, (ad.add (i * 6)).off + 3, none⟩ = some (.int .i64 r.ky) ∧ w'.cell? ⟨(ad.add (i * 6)).block, (ad.add (i * 6)).off + 4, none⟩ = some (.int .i64 r.vl) ∧ w'.cell? ⟨(ad.add (i * 6)).block, (ad.add (i * 6)).off + 5, none⟩ = some (.int .i64 r.sg) ∧ w'.cell? (ad2.add k) = some (.int .i64 z)) (first | exact ⟨q0, q1, q2, q3, q4, q5, qz⟩ | exact hq0 | exact hq2 | go_keep)
              (first
              | (go_at_call 20; refine (HNo.out _).mono ?_; rintro e w5 ⟨rfl, rfl⟩)
              | (go_at_call 9; refine (HW4.out _).mono ?_; rintro e w5 ⟨rfl, rfl⟩)
              | (refine step_apps rfl (.tmp 59) (.tmp 73) 57 rfl w4.heap.size 59 i0 (.agg #[.int .i64 0, .int .i64 0, .int .i64 0, .int .i64 0, .int .i64 0, .int .i64 0, .int .i64 0]) 7 56 Try.underlying57 hi0 hx0 hx1 hx2 rfl (by decide) (.slice Av out.length cv) _ _ rfl HOw.out _ (some ⟨wr.heap.size, 0, none⟩) 1 1 (toldCells [(r, kk)]) rfl rfl HNw.out (fun h => nomatch h) HOne.out HM1.out HM2.out HM3.out ?_; intro vb w6 hob hgb hlb; obtain ⟨Ab, cb, rfl, _, _⟩ := own_slice hob; have hq2 := HK.out _ _ hob hgb))
            have HS6 := Lib.hid (HS.out.add hob (HLow6.out _ _ hob hgb) HMem.out HKK.out)
            clear hob hgb hlb hq0 hq2 HK HLow6 HOw HNw q0 q1 q2 q3 q4 q5 qz
            go_wp2_with fail
            go_roundw
            case rel => exact ⟨k + 1, out ++ [(r, kk)], by go_num, by omega, by omega, by rw [List.length_append]; show out.length + 1 ≤ _; omega, HS6⟩
            case measure => simp [intOf]; omega
          · by_cases hk1 : k < m
            · have hk2 : k = 6 := by omega
              subst hk2
              go_wp2_with fail
              go_roundw
              case rel => exact ⟨i + 1, out, by go_num, by omega, by omega, HS⟩
              case measure => simp [intOf]; omega
            · have g1 : decide ((k : Int) < (m : Int)) = false := decide_eq_false (by omega)
              go_wp2_with fail
              go_roundw
              case rel => exact ⟨i + 1, out, by go_num, by omega, by omega, HS⟩
              case measure => simp [intOf]; omega
      · obtain rfl : i = n4 := by omega
        obtain ⟨Av, cv, rfl, -, -⟩ := own_slice HS.out.own
        have HT4 := Lib.hid (HT.out.below HS.out.low)
        have HO4 := Lib.hid HS.out.own
        have HGd := Lib.hid HS.out.good
        obtain ⟨N, hN⟩ : ∃ N, out.length = N := ⟨_, rfl⟩
        rw [hN] at HO4 hol
        have HNo2 := Lib.hid hN
        have HWt := Lib.hid (fun w => within_any tn ((N : Int) + 1) (by omega) (by omega) HTn.out.1 HTn.out.2 w)
        have hm0 := Int.emod_nonneg tn (show ((N : Int) + 1) ≠ 0 by omega)
        have hm1 := Int.emod_lt_of_pos tn (show 0 < (N : Int) + 1 by omega)
        obtain ⟨aa, haa⟩ : ∃ a : Nat, tn % ((N : Int) + 1) = a := ⟨(tn % ((N : Int) + 1)).toNat, by omega⟩
        rw [haa] at HWt hm1
        have haN : aa ≤ N := by omega
        have HD0 := Lib.hid ((ord_new l4).congr (T' := toldN out 0) (fun r n => ⟨False.elim, fun ⟨j, h1, _⟩ => absurd h1 (Nat.not_lt_zero j)⟩))
        have HE0 := Lib.hid ((ord_new l4).congr (T' := turnN out aa 0) (fun r n => ⟨False.elim, fun ⟨j, h1, _⟩ => absurd h1 (Nat.not_lt_zero j)⟩))
        have HL44 := Lib.hid (show l4.length ≤ 4 by rw [HN4.out]; omega)
        simp only [hN]
        clear hm0 hm1 haa HS hN
        go_wp2_with fail
        refine (HWt.out _).mono ?_
        rintro e w5 ⟨rfl, rfl⟩
        go_wp2_with fail
        go_loopw [83] (fun x wr => ∃ (i : Nat) (v1 : Value) (L1 : List Tr) (v2 : Value) (L2 : List Tr), x = .int .i64 i ∧ i ≤ N ∧ Hid (Two13 w 1 3 t1 v1 L1 t2 v2 L2 wr) ∧ Hid (wr.ownsRow w4.heap.size 59 7 (.slice Av N cv) N (toldCells out)) ∧ Hid (Od13 l4 (toldN out i) L1) ∧ Hid (Od13 l4 (turnN out aa i) L2)) (fun x _ => N - (intOf x).toNat)
        case atStart => exact ⟨0, _, _, _, _, rfl, Nat.zero_le _, HT4, HO4, HD0, HE0⟩
        case round =>
          obtain ⟨i, v1, L1, v2, L2, rfl, hi, HT5, HO5, HD, HE⟩ := hrel
          by_cases hlt : i < N
          · have hio : i < out.length := by rw [HNo2.out]; exact hlt
            obtain ⟨⟨r, kk⟩, hp1⟩ : ∃ p, out[i]? = some p := ⟨_, List.getElem?_eq_getElem hio⟩
            obtain ⟨ad, hA, hab, c0, c1, c2, c3, c4, c5, c6⟩ := told_at (has_rows HO5.out) hp1
            subst hA
            simp only at c0 c1 c2 c3 c4 c5 c6
            obtain ⟨hr4, hk4⟩ := HGd.out _ (List.mem_of_getElem? hp1)
            have HP1 := Lib.hid ((pput_any (w := wr.drew) (HT5.out.r1.tab.drewN 1) r kk 5).mono (R' := fun e w' => ∃ b1 b2 e3, e = .returned (.tuple #[.bool b1, .bool b2, .int .i64 e3]) ∧ TbPost wr.drew t1 v1 1 3 (putT 1 3 L1 r kk 5).2 w') fun _ _ he => ⟨_, _, _, he.1, he.2⟩)
            have HD2 := Lib.hid ((HD.out.put HL44.out hr4 hk4).congr (told_next hp1))
            have HRow := Lib.hid (fun (wz : World) (hp : TbPost wr.drew t1 v1 1 3 (putT 1 3 L1 r kk 5).2 wz) => And.intro (hp.farRow (HT5.out.r1.tab.drewN 1) HO5.out.drew (by decide) (by decide)) ((HT5.out.below (wz := wr.drew) ⟨rfl, rfl, rfl, Nat.le_refl _, fun _ _ => rfl⟩).put hp))
            have HK := Lib.hid (fun (wz : World) (ho : wz.ownsRow w4.heap.size 59 7 (.slice (some ad) N cv) N (toldCells out)) => show (wz.cell? (ad.add (i * 7)) = some (.int .i64 r.cl) ∧ wz.cell? ⟨(ad.add (i * 7)).block, (ad.add (i * 7)).off + 1, none⟩ = some (.int .i64 r.tm) ∧ wz.cell? ⟨(ad.add (i * 7)).block, (ad.add (i * 7)).off + 2, none⟩ = some (.int .i64 r.kd) ∧ wz.cell? ⟨(ad.add (i * 7)).block, (ad.add (i * 7)).off + 3, none⟩ = some (.int .i64 r.ky) ∧ wz.cell? ⟨(ad.add (i * 7)).block, (ad.add (i * 7)).off + 4, none⟩ = some (.int .i64 r.vl) ∧ wz.cell? ⟨(ad.add (i * 7)).block, (ad.add (i * 7)).off + 5, none⟩ = some (.int .i64 r.sg) ∧ wz.cell? ⟨(ad.add (i * 7)).block, (ad.add (i * 7)).off + 6, none⟩ = some (.int .i64 (kk : Nat))) from by
              obtain ⟨ad', hA, _, h0, h1, h2, h3, h4, h5, h6⟩ := told_at (has_rows ho) hp1
              cases hA
              exact ⟨h0, h1, h2, h3, h4, h5, h6⟩)
            have hq1 := HK.out wr.drew HO5.out.drew
            have hii : (i : Int) < (N : Int) := by omega
            clear hio hab hr4 hk4 hp1
            go_wp2_with fail
            go_region_held3 (fun w' => w'.cell? (ad.add (i * 7)) = some (.int .i64 r.cl) ∧ w'.cell? ⟨(ad.add (i * 7)).block, (ad.add (i * 7)).off + 1, none⟩ = some (.int .i64 r.tm) ∧ w'.cell? ⟨(ad.add (i * 7)).block, (ad.add (i * 7)).off + 2, none⟩ = some (.int .i64 r.kd) ∧ w'.cell? ⟨(ad.add (i * 7)).block, (ad.add (i * 7)).off + 3, none⟩ = some (.int .i64 r.ky) ∧ w'.cell? ⟨(ad.add (i * 7)).block, (ad.add (i * 7)).off + 4, none⟩ = some (.int .i64 r.vl) ∧ w'.cell? ⟨(ad.add (i * 7)).block, (ad.add (i * 7)).off + 5, none⟩ = some (.int .i64 r.sg) ∧ w'.cell? ⟨(ad.add (i * 7)).block, (ad.add (i * 7)).off + 6, none⟩ = some (.int .i64 (kk : Nat))) (first | exact hq1 | exact hq2 | go_keep)
              ((go_at_call 12; refine HP1.out.mono ?_; rintro e w6 ⟨p1, p2, p3, rfl, hp⟩; have HP := Lib.hid (HRow.out _ hp); clear hp; have hq2 := HK.out _ HP.out.1))
            obtain ⟨ho6, v6, hT6⟩ := HP.out
            have HO6 := Lib.hid ho6
            have HT6 := Lib.hid hT6
            clear HP ho6 hT6 hq1 hq2 c0 c1 c2 c3 c4 c5 c6 HK HRow HP1 HO5 HT5 HD
            obtain ⟨jn, hjn⟩ : ∃ j, (i + aa) % N = j := ⟨_, rfl⟩
            have hjN : jn < N := by rw [← hjn]; exact Nat.mod_lt _ (by omega)
            have hjm : ((i : Int) + (aa : Int)) % (N : Int) = (jn : Int) := by rw [← hjn, Int.natCast_emod, Int.natCast_add]
            have hjt : ((i : Int) + (aa : Int)).tmod (N : Int) = (jn : Int) := by rw [Int.tmod_eq_emod_of_nonneg (by omega)]; exact hjm
            have hjo : jn < out.length := by rw [HNo2.out]; exact hjN
            obtain ⟨⟨s, ks⟩, hp2⟩ : ∃ p, out[jn]? = some p := ⟨_, List.getElem?_eq_getElem hjo⟩
            have HE2 := Lib.hid ((HE.out.put HL44.out (HGd.out _ (List.mem_of_getElem? hp2)).1 (HGd.out _ (List.mem_of_getElem? hp2)).2).congr (turn_next (at_ := aa) (i := i) (by rw [HNo2.out, hjn]; exact hp2)))
            obtain ⟨ad', hA, hab, c0, c1, c2, c3, c4, c5, c6⟩ := told_at (has_rows HO6.out) hp2
            cases hA
            simp only at c0 c1 c2 c3 c4 c5 c6
            have HP1 := Lib.hid ((pput_any (w := w6.drew) (HT6.out.r2.tab.drewN 1) s ks 5).mono (R' := fun e w' => ∃ b1 b2 e3, e = .returned (.tuple #[.bool b1, .bool b2, .int .i64 e3]) ∧ TbPost w6.drew t2 v2 1 3 (putT 1 3 L2 s ks 5).2 w') fun _ _ he => ⟨_, _, _, he.1, he.2⟩)
            have HRow := Lib.hid (fun (wz : World) (hp : TbPost w6.drew t2 v2 1 3 (putT 1 3 L2 s ks 5).2 wz) => And.intro (hp.farRow (HT6.out.r2.tab.drewN 1) HO6.out.drew (by decide) (by decide)) ((HT6.out.below (wz := w6.drew) ⟨rfl, rfl, rfl, Nat.le_refl _, fun _ _ => rfl⟩).swap.put hp))
            have HK := Lib.hid (fun (wz : World) (ho : wz.ownsRow w4.heap.size 59 7 (.slice (some ad) N cv) N (toldCells out)) => show (wz.cell? (ad.add (jn * 7)) = some (.int .i64 s.cl) ∧ wz.cell? ⟨(ad.add (jn * 7)).block, (ad.add (jn * 7)).off + 1, none⟩ = some (.int .i64 s.tm) ∧ wz.cell? ⟨(ad.add (jn * 7)).block, (ad.add (jn * 7)).off + 2, none⟩ = some (.int .i64 s.kd) ∧ wz.cell? ⟨(ad.add (jn * 7)).block, (ad.add (jn * 7)).off + 3, none⟩ = some (.int .i64 s.ky) ∧ wz.cell? ⟨(ad.add (jn * 7)).block, (ad.add (jn * 7)).off + 4, none⟩ = some (.int .i64 s.vl) ∧ wz.cell? ⟨(ad.add (jn * 7)).block, (ad.add (jn * 7)).off + 5, none⟩ = some (.int .i64 s.sg) ∧ wz.cell? ⟨(ad.add (jn * 7)).block, (ad.add (jn * 7)).off + 6, none⟩ = some (.int .i64 (ks : Nat))) from by
              obtain ⟨ad', hA, _, h0, h1, h2, h3, h4, h5, h6⟩ := told_at (has_rows ho) hp2
              cases hA
              exact ⟨h0, h1, h2, h3, h4, h5, h6⟩)
            have hq1 := HK.out w6.drew HO6.out.drew
            have hjj : (jn : Int) < (N : Int) := by omega
            have hN0 : ((N : Int) == 0) = false := by rw [beq_eq_false_iff_ne]; omega
            have hN1 : ¬ (N : Int) = 0 := by omega
            have hN2 : ¬ N = 0 := by omega
            clear hab hp2 hjo hjn
            go_wp2_with fail
            go_region_held3 (fun w' => w'.cell? (ad.add (jn * 7)) = some (.int .i64 s.cl) ∧ w'.cell? ⟨(ad.add (jn * 7)).block, (ad.add (jn * 7)).off + 1, none⟩ = some (.int .i64 s.tm) ∧ w'.cell? ⟨(ad.add (jn * 7)).block, (ad.add (jn * 7)).off + 2, none⟩ = some (.int .i64 s.kd) ∧ w'.cell? ⟨(ad.add (jn * 7)).block, (ad.add (jn * 7)).off + 3, none⟩ = some (.int .i64 s.ky) ∧ w'.cell? ⟨(ad.add (jn * 7)).block, (ad.add (jn * 7)).off + 4, none⟩ = some (.int .i64 s.vl) ∧ w'.cell? ⟨(ad.add (jn * 7)).block, (ad.add (jn * 7)).off + 5, none⟩ = some (.int .i64 s.sg) ∧ w'.cell? ⟨(ad.add (jn * 7)).block, (ad.add (jn * 7)).off + 6, none⟩ = some (.int .i64 (ks : Nat))) (first | exact hq1 | exact hq2 | go_keep)
              ((go_at_call 12; refine HP1.out.mono ?_; rintro e w7 ⟨p4, p5, p6, rfl, hp⟩; have HP := Lib.hid (HRow.out _ hp); clear hp; have hq2 := HK.out _ HP.out.1))
            obtain ⟨ho7, v7, hTw7⟩ := HP.out
            have HO7 := Lib.hid ho7
            have HTw7 := Lib.hid hTw7.swap
            clear HP ho7 hTw7 hq1 hq2 c0 c1 c2 c3 c4 c5 c6 HK HRow HP1 HO6 HT6 HE
            go_wp2_with fail
            go_roundw
            case rel => exact ⟨i + 1, v6, _, v7, _, by go_num, by omega, HTw7, HO7, HD2, HE2⟩
            case measure => simp [intOf]; omega
          · obtain rfl : i = N := by omega
            obtain ⟨hs1, hs2⟩ := Od13.same (HD.out.congr (T' := turnN out aa i) (fun r n => by have := turn_all out (at_ := aa) (by rw [HNo2.out]; exact haN) r n; rwa [HNo2.out] at this)) HE.out
            have HSm1 := Lib.hid hs1
            have HSm2 := Lib.hid hs2
            have HR16 := Lib.hid (show (rqs L1).length ≤ 16 ∧ (readyT 1 L1).length ≤ 16 from ⟨by rw [rqs_len]; exact HD.out.ok.most, by unfold readyT; rw [rqs_len]; exact Nat.le_trans (List.length_filter_le _ _) HD.out.ok.most⟩)
            clear hs1 hs2
            have HA := Lib.hid (pall_any HT5.out.r1.tab)
            go_wp2_with fail
            refine HA.out.mono ?_
            rintro e w6 ⟨va, rfl, hoa, hba⟩
            have HT6 := Lib.hid (HT5.out.below hba)
            have HOa := Lib.hid hoa
            clear hoa hba
            have HA2 := Lib.hid (pall_any HT6.out.r2.tab)
            rw [← HSm1.out] at HA2
            go_wp2_with fail
            refine HA2.out.mono ?_
            rintro e w7 ⟨vb, rfl, hob, hbb⟩
            have HTw7 := Lib.hid (HT6.out.below hbb)
            have HOa7 := Lib.hid (below_own HOa.out hbb (Nat.le_refl _))
            have HOb := Lib.hid hob
            clear hob hbb
            obtain ⟨Aa, ca, rfl, -, -⟩ := own_slice HOa7.out
            obtain ⟨Ab, cb, rfl, -, -⟩ := own_slice HOb.out
            have HS := Lib.hid (same_reqs Aa Ab ca cb (rqs L1) (rqs L1) _ w7 (by have := HR16.out.1; omega) (has_rows HOa7.out) (has_rows HOb.out))
            rw [show sameL (rqs L1) (rqs L1) = true by simp [sameL]] at HS
            go_wp2_with fail
            refine HS.out.mono ?_
            rintro e w8 ⟨rfl, nq, rfl⟩
            have HT8 := Lib.hid (HTw7.out.below (wz := w7.drewN nq) ⟨rfl, rfl, rfl, Nat.le_refl _, fun _ _ => rfl⟩)
            clear HS HOa7 HOb
            have HA := Lib.hid (preadies_any HT8.out.r1.tab)
            go_wp2_with fail
            refine HA.out.mono ?_
            rintro e w9 ⟨va, rfl, hoa, hba⟩
            have HT9 := Lib.hid (HT8.out.below hba)
            have HOa := Lib.hid hoa
            clear hoa hba
            have HA2 := Lib.hid (preadies_any HT9.out.r2.tab)
            rw [← HSm2.out] at HA2
            go_wp2_with fail
            refine HA2.out.mono ?_
            rintro e w10 ⟨vb, rfl, hob, hbb⟩
            have HT10 := Lib.hid (HT9.out.below hbb)
            have HOa7 := Lib.hid (below_own HOa.out hbb (Nat.le_refl _))
            have HOb := Lib.hid hob
            clear hob hbb
            obtain ⟨Aa, ca, rfl, -, -⟩ := own_slice HOa7.out
            obtain ⟨Ab, cb, rfl, -, -⟩ := own_slice HOb.out
            have HS := Lib.hid (same_reqs Aa Ab ca cb (readyT 1 L1) (readyT 1 L1) _ w10 (by have := HR16.out.2; omega) (has_rows HOa7.out) (has_rows HOb.out))
            rw [show sameL (readyT 1 L1) (readyT 1 L1) = true by simp [sameL]] at HS
            go_wp2_with fail
            refine HS.out.mono ?_
            rintro e w11 ⟨rfl, nq2, rfl⟩
            have HT11 := Lib.hid (HT10.out.below (wz := w10.drewN nq2) ⟨rfl, rfl, rfl, Nat.le_refl _, fun _ _ => rfl⟩)
            go_wp2_with fail
            refine (wakes13_any _).mono ?_
            rintro e w12 ⟨rfl, hb12⟩
            have HT12 := Lib.hid (HT11.out.below hb12)
            clear hb12
            go_wp2_with fail
            go_ret
            exact ⟨rfl, HT12.out.r1.low⟩
end Go.Proofs.Ytbpefdnlldpjiaa
