/- slices.DeleteFunc at a table's rows; package prop's Drop. -/
import Derived.Test.YtbpefdnlldpjiaaPropDel
import Derived.Test.YtbpefdnlldpjiaaPropPut
namespace Go.Proofs.Ytbpefdnlldpjiaa
open Go.RowKit Go.Sort
set_option linter.unusedSimpArgs false

theorem rows_prefix {w : World} {base n c k s : Nat} {e : TypeId} {A : Option Addr} {xs : List Value} (h : w.ownsRow base e s (.slice A n c) n xs) (hk : k ≤ n) : w.ownsRow base e s (.slice A k c) k (xs.take (k * s)) := by
  have hks : k * s ≤ n * s := Nat.mul_le_mul_right s hk
  refine ⟨by rw [List.length_take, h.1]; omega, ?_⟩
  rcases h.2 with ⟨h2, h3⟩ | ⟨g, cap, cur, hv, hg, hb, hc, hm, hz, ht⟩
  · injection h2 with a1 a2 a3
    subst a1 a3
    exact Or.inl ⟨by rw [show k = 0 by omega], by omega⟩
  · injection hv with a1 a2 a3
    subst a1 a3
    exact Or.inr ⟨g, c, cur, rfl, hg, hb, by omega, hm, hz, by rw [← ht, List.take_take, Nat.min_eq_left hks]⟩
/-- DeleteFunc under way: the first j have been looked at, i of them are kept. -/
structure Df (w : World) (g c n : Nat) (p : Tr → Bool) (L : List Tr) (gc gt : Nat) (cl tm : Int) (i j : Nat) (D : List Tr) (wr : World) : Prop where
  own : wr.ownsRow 0 70 8 (.slice (some ⟨g, 0, none⟩) n c) n (trCells D)
  len : D.length = n
  lo : D.take i = (L.take j).filter fun x => !p x
  hi : D.drop j = L.drop j
  turn : Turn (fun q => q = g) w wr
  cap : Cap wr gc gt cl tm
section
variable {w wr wz : World} {g c n : Nat} {p : Tr → Bool} {L D : List Tr} {gc gt : Nat} {cl tm : Int} {i j : Nat} {x : Tr}
theorem Df.below (h : Df w g c n p L gc gt cl tm i j D wr) (hb : Below wr.heap.size wr wz) : Df w g c n p L gc gt cl tm i j D wz :=
  ⟨below_own h.own hb (Nat.le_refl _), h.len, h.lo, h.hi, h.turn.trans (Turn.of_below hb), h.cap.below hb⟩
theorem Df.at (h : Df w g c n p L gc gt cl tm i j D wr) (hx : L[j]? = some x) : D[j]? = some x := by
  have h1 : (D.drop j)[0]? = (L.drop j)[0]? := by rw [h.hi]
  rw [List.getElem?_drop, List.getElem?_drop, Nat.add_zero, hx] at h1
  exact h1
theorem drop_next {α : Type} {l m : List α} {j : Nat} (h : l.drop j = m.drop j) : l.drop (j + 1) = m.drop (j + 1) := by
  rw [← List.drop_drop, ← List.drop_drop, h]
theorem Df.skip (h : Df w g c n p L gc gt cl tm i j D wr) (hx : L[j]? = some x) (hp : p x = true) : Df w g c n p L gc gt cl tm i (j + 1) D wr :=
  ⟨h.own, h.len, by rw [List.take_add_one, hx, List.filter_append, h.lo]; simp [hp], drop_next h.hi, h.turn, h.cap⟩
theorem Df.keep (h : Df w g c n p L gc gt cl tm i j D wr) (hx : L[j]? = some x) (hp : p x = false) (hij : i < j) (hg1 : gc ≠ g) (hg2 : gt ≠ g) : Df w g c n p L gc gt cl tm (i + 1) (j + 1) (D.set i x) (wr.setCells g (i * 8) x.cells) := by
  have hj : j < D.length := (List.getElem?_eq_some_iff.1 (h.at hx)).1
  refine ⟨?_, by rw [List.length_set, h.len], ?_, ?_, h.turn.trans (turn_many8 _ _ _ _), ?_⟩
  · have h1 := own_cells (o := i * 8) (vs := x.cells) h.own (by rw [tr_len]; have := h.len; omega)
    have h2 : (trCells D).take (i * 8) ++ x.cells ++ (trCells D).drop (i * 8 + x.cells.length) = trCells (D.set i x) := by
      rw [List.set_eq_take_append_cons_drop, if_pos (by omega), trCells_app, trCells_take]
      show _ = _ ++ (x.cells ++ trCells (D.drop (i + 1)))
      rw [trCells_drop, tr_len, List.append_assoc, show i * 8 + 8 = (i + 1) * 8 by omega]
    rw [h2] at h1
    exact h1
  · rw [List.take_add_one, List.getElem?_set_self (by omega), List.take_set_of_le (Nat.le_refl _), h.lo, List.take_add_one, hx, List.filter_append]
    simp [hp]
  · rw [List.drop_set_of_lt (by omega)]
    exact drop_next h.hi
  · exact ⟨(World.cell?_setCells_out g _ _ _ _ (fun e _ => absurd e hg1)).trans h.cap.c, (World.cell?_setCells_out g _ _ _ _ (fun e _ => absurd e hg2)).trans h.cap.t⟩
theorem Df.start (ho : w.ownsRow 0 70 8 (.slice (some ⟨g, 0, none⟩) n c) n (trCells L)) (hl : L.length = n) (hc : Cap w gc gt cl tm) (hi : ∀ y ∈ L.take i, p y = false) (hx : L[i]? = some x) (hp : p x = true) : Df w g c n p L gc gt cl tm i (i + 1) L w := by
  refine ⟨ho, hl, ?_, rfl, Turn.refl _ _, hc⟩
  rw [List.take_add_one, hx, List.filter_append, List.filter_eq_self.2 (fun y hy => by rw [hi y hy]; rfl)]
  simp [hp]
end
theorem row_zero_one (n : Nat) : ∀ v ∈ (Builtin.zeroCells #[.int .i64 0, .int .i64 0, .int .i64 0, .int .i64 0, .int .i64 0, .int .i64 0, .int .u16 0, .int .i64 0] n).toList, v.oneCell' = true := by
  have key : ∀ k, k < 8 → ((#[Value.int .i64 0, .int .i64 0, .int .i64 0, .int .i64 0, .int .i64 0, .int .i64 0, .int .u16 0, .int .i64 0] : Array Value)[k]!).oneCell' = true := fun k hk => by
    match k, hk with
    | 0, _ => rfl
    | 1, _ => rfl
    | 2, _ => rfl
    | 3, _ => rfl
    | 4, _ => rfl
    | 5, _ => rfl
    | 6, _ => rfl
    | 7, _ => rfl
  intro v hv
  simp only [Builtin.zeroCells, Array.toList_map, List.mem_map] at hv
  obtain ⟨i, _, rfl⟩ := hv
  exact key _ (Nat.mod_lt _ (by decide))
theorem clear_rows {w : World} (ty : TypeId) {b o n c : Nat} (hn : 0 < n) (h : w.there b o (n * 8)) :
    ∃ zs : List Value, zs.length = n * 8 ∧ (Builtin.clear_ #[62] ty #[.slice (some ⟨b, o, none⟩) n c]).run Try.prog w = .ok (.tuple #[]) (w.setCells b o zs) := by
  obtain ⟨zs, hzs⟩ : ∃ zs, (Builtin.zeroCells #[.int .i64 0, .int .i64 0, .int .i64 0, .int .i64 0, .int .i64 0, .int .i64 0, .int .u16 0, .int .i64 0] n).toList = zs := ⟨_, rfl⟩
  have hl : zs.length = n * 8 := by rw [← hzs, Array.length_toList, zeroCells_size]; rfl
  have hst := run_storeCells_cells (P := Try.prog) b o zs 0 w (fun j hj => (h j (by omega)).1) (fun j hj => (h j (by omega)).2) (by rw [← hzs]; exact row_zero_one n)
  simp only [Nat.add_zero] at hst
  have hv := Try.zeroValue70
  obtain ⟨m, rfl⟩ : ∃ m, n = m + 1 := ⟨n - 1, by omega⟩
  refine ⟨zs, hl, ?_⟩
  simp [Builtin.clear_, run_underlying Try.underlying62, hv, Value.cells, hzs, hst]
theorem row_size1 : (Try.prog.info? 70).map (·.size) = some 8 := by kernel_rfl
theorem row_one1 (x : Tr) (mm : Int) : (#[.int .i64 x.rq.cl, .int .i64 x.rq.tm, .int .i64 x.rq.kd, .int .i64 x.rq.ky, .int .i64 x.rq.vl, .int .i64 x.rq.sg, .int .u16 mm, .int .i64 x.sc] : Array Value).all (·.oneCell') = true :=
  all_oneCell_toArray (cs := [.int .i64 x.rq.cl, .int .i64 x.rq.tm, .int .i64 x.rq.kd, .int .i64 x.rq.ky, .int .i64 x.rq.vl, .int .i64 x.rq.sg, .int .u16 mm, .int .i64 x.sc]) (by intro v hv; simp at hv; rcases hv with rfl | rfl | rfl | rfl | rfl | rfl | rfl | rfl <;> rfl)
/-- What DeleteFunc leaves. -/
def DelPost (w : World) (v : Value) (L : List Tr) (e : Ending) (w' : World) : Prop :=
  ∃ v', e = .returned v' ∧ w'.ownsRow 0 70 8 v' L.length (trCells L) ∧ Turn (fun j => v.ownBlock = some j) w w' ∧ v'.ownBlock = v.ownBlock
set_option maxHeartbeats 4000000 in
set_option maxRecDepth 100000 in
theorem del_any {w : World} {A : Option Addr} {c n : Nat} {L : List Tr} {gc gt : Nat} {cl tm : Int} (h : w.ownsRow 0 70 8 (.slice A n c) n (trCells L)) (hn : L.length = n) (hm : n ≤ 16) (hc : Cap w gc gt cl tm) (h1 : (Value.slice A n c).ownBlock ≠ some gc) (h2 : (Value.slice A n c).ownBlock ≠ some gt) :
    Calls Try.prog 38 #[.slice A n c, .func (.func 39) #[] #[.pointer (some ⟨gc, 0, none⟩), .pointer (some ⟨gt, 0, none⟩)]] w (DelPost w (.slice A n c) (dropT L cl tm)) := by
  have HI := Lib.hid (idx_any (has_rows h) hn hm hc (c := c))
  have HO := Lib.hid h
  have HN := Lib.hid hn
  have HC := Lib.hid hc
  have HG1 := Lib.hid h1
  have HG2 := Lib.hid h2
  clear h hn hc h1 h2
  go_enter Try.func38, Try.ntmps38
  go_wp2_with fail
  refine HI.out.mono ?_
  rintro e w1 ⟨z, rfl, hz, hb1⟩
  have HO1 := Lib.hid (below_own HO.out hb1 (Nat.le_refl _))
  have HT1 := Lib.hid (Turn.of_below (Z := fun j => (Value.slice A n c).ownBlock = some j) hb1)
  have HC1 := Lib.hid (HC.out.below hb1)
  clear hb1
  rcases hz with ⟨rfl, hall⟩ | ⟨i0, rfl, hi0, hlo, x0, hx0, hp0⟩
  · have HD := Lib.hid (show dropT L cl tm = L from by rw [dropT_is]; exact List.filter_eq_self.2 (fun x hx => by rw [hall x hx]; rfl))
    clear hall
    go_wp2_with fail
    go_ret
    exact ⟨_, rfl, by rw [HD.out, HN.out]; exact HO1.out, HT1.out, rfl⟩
  · obtain ⟨g, rfl, hnc⟩ : ∃ g, A = some ⟨g, 0, none⟩ ∧ n ≤ c := by
      rw [HN.out] at hi0
      obtain ⟨g, c2, hv, _, _⟩ := HO1.out.form (by omega)
      obtain ⟨A2, c3, hv2, h3, _⟩ := own_slice HO1.out
      injection hv with a _ _
      injection hv2 with _ _ b
      exact ⟨g, a, b ▸ h3⟩
    have HNe := Lib.hid (show gc ≠ g ∧ gt ≠ g from ⟨fun e => HG1.out (by rw [e]; rfl), fun e => HG2.out (by rw [e]; rfl)⟩)
    have HS0 := Lib.hid (Df.start (w := w1) (g := g) (c := c) HO1.out HN.out HC1.out hlo hx0 hp0)
    have hin : i0 < n := by rw [← HN.out]; exact hi0
    have g0 : ((i0 : Int) == -1) = false := by rw [beq_eq_false_iff_ne]; omega
    have HGl := Lib.hid (show g < w1.heap.size from (HO1.out.lt g rfl).2)
    clear hi0 hlo hx0 hp0
    go_wp2_with fail
    go_loopw [5, 6] (fun y z wr => ∃ (i j : Nat) (D : List Tr), y = .int .i64 i ∧ z = .int .i64 j ∧ i < j ∧ j ≤ n ∧ Hid (Df w1 g c n (delT cl tm) L gc gt cl tm i j D wr)) (fun _ z _ => n - (intOf z).toNat)
    case atStart => exact ⟨i0, i0 + 1, L, rfl, by go_num, by omega, by omega, HS0⟩
    case round =>
      obtain ⟨i, j, D, rfl, rfl, hij, hjn, HS⟩ := hrel
      by_cases hlt : j < n
      · have hjL : j < L.length := by rw [HN.out]; exact hlt
        have HX := Lib.hid (show L[j]? = some L[j] from List.getElem?_eq_getElem hjL)
        obtain ⟨x, hx⟩ : ∃ x, L[j] = x := ⟨_, rfl⟩
        rw [hx] at HX
        have hDj := HS.out.at HX.out
        obtain ⟨hjD, hDx⟩ := List.getElem?_eq_some_iff.1 hDj
        obtain ⟨ad, e, hab, hR⟩ := tr_at (has_rows HS.out.own) hjD
        cases e
        rw [hDx] at hR
        obtain ⟨c0, c1, c2, c3, c4, c5, c6, c7⟩ := hR
        rw [addr_at] at c0 c1 c2 c3 c4 c5 c6 c7
        simp only at c1 c2 c3 c4 c5 c6 c7
        obtain ⟨mm, hmm⟩ : ∃ m : Int, (maskS x.bs : Nat) = m := ⟨_, rfl⟩
        rw [hmm] at c6
        have hba : Below wr.heap.size wr (wr.alloc (.cells #[.int .i64 x.rq.cl, .int .i64 x.rq.tm, .int .i64 x.rq.kd, .int .i64 x.rq.ky, .int .i64 x.rq.vl, .int .i64 x.rq.sg, .int .u16 mm, .int .i64 x.sc] 70)) := (Below.refl _ _).alloc (Nat.le_refl _) _
        have HBa := Lib.hid hba
        have hcapA := HS.out.cap.below hba
        have HK := Lib.hid (drop_cl hcapA.c hcapA.t x)
        rw [hmm] at HK
        have HMM := Lib.hid hmm
        have HBx := Lib.hid (Blk.new wr 70 #[.int .i64 x.rq.cl, .int .i64 x.rq.tm, .int .i64 x.rq.kd, .int .i64 x.rq.ky, .int .i64 x.rq.vl, .int .i64 x.rq.sg, .int .u16 mm, .int .i64 x.sc])
        have hjI : (j : Int) < (n : Int) := by omega
        clear hx hDj hjD hDx hab hmm hba hcapA hjL
        cases hd : delT cl tm x
        · rw [hd] at HK
          have HKeep := Lib.hid (fun (wz : World) (hb : Below wr.heap.size wr wz) => (HS.out.below hb).keep HX.out hd hij HNe.out.1 HNe.out.2)
          have HTh := Lib.hid (fun (wz : World) (hb : Below wr.heap.size wr wz) => own_there (HS.out.below hb).own (o := i * 8) (k := 8) (by omega))
          clear hd
          go_wp2_with fail
          refine HK.out.mono ?_
          rintro e w2 ⟨rfl, hb2⟩
          have hB2 := HBa.out.trans (hb2.mono HBa.out.size)
          have hBx := HBx.out.below hb2 HBx.out.lt
          have d0 := hBx.cell 0
          have d1 := hBx.cell 1
          have d2 := hBx.cell 2
          have d3 := hBx.cell 3
          have d4 := hBx.cell 4
          have d5 := hBx.cell 5
          have d6 := hBx.cell 6
          have d7 := hBx.cell 7
          simp only [List.getElem?_toArray, List.getElem?_cons_zero, List.getElem?_cons_succ] at d0 d1 d2 d3 d4 d5 d6 d7
          have HS2 := Lib.hid (HKeep.out w2 hB2)
          have HTh2 := Lib.hid (HTh.out w2 hB2)
          have HCe := Lib.hid (show (#[.int .i64 x.rq.cl, .int .i64 x.rq.tm, .int .i64 x.rq.kd, .int .i64 x.rq.ky, .int .i64 x.rq.vl, .int .i64 x.rq.sg, .int .u16 mm, .int .i64 x.sc] : Array Value).toList = x.cells from by rw [← HMM.out]; rfl)
          obtain ⟨w3, hw3⟩ : ∃ w3, w2.setCells g (i * 8) x.cells = w3 := ⟨_, rfl⟩
          rw [hw3] at HS2
          have HW3 := Lib.hid hw3
          have hiI : (i : Int) < (n : Int) := by omega
          clear hb2 hB2 hBx HKeep HTh hw3 c0 c1 c2 c3 c4 c5 c6 c7
          go_wp2_with (refine wpList_store_mid rfl 70 (.tmp 33) (.tmp 32) rfl g (i * 8) #[.int .i64 x.rq.cl, .int .i64 x.rq.tm, .int .i64 x.rq.kd, .int .i64 x.rq.ky, .int .i64 x.rq.vl, .int .i64 x.rq.sg, .int .u16 mm, .int .i64 x.sc] rfl rfl HTh2.out row_size1 (row_one1 x mm) ?_; rw [HCe.out, HW3.out])
          go_roundw
          case rel => exact ⟨i + 1, j + 1, D.set i x, by go_num, by go_num, by omega, by omega, HS2⟩
          case measure => simp [intOf]; omega
        · rw [hd] at HK
          have HSkip := Lib.hid (fun (wz : World) (hb : Below wr.heap.size wr wz) => (HS.out.below hb).skip HX.out hd)
          clear hd
          go_wp2_with fail
          refine HK.out.mono ?_
          rintro e w2 ⟨rfl, hb2⟩
          have HS2 := Lib.hid (HSkip.out w2 (HBa.out.trans (hb2.mono HBa.out.size)))
          clear hb2 HSkip
          go_wp2_with fail
          go_roundw
          case rel => exact ⟨i, j + 1, D, rfl, by go_num, by omega, by omega, HS2⟩
          case measure => simp [intOf]; omega
      · obtain rfl : j = n := by omega
        have R1 : ∀ w, (Instr.slice 62 (.slice (some ⟨g, 0, none⟩) j c) (some (.int .i64 (i : Int))) none none).run Try.prog w = .ok (.slice (some ⟨g, i * 8, none⟩) (j - i) (c - i)) w := fun w => by rw [rows_tail (w := w) _ (Nat.le_of_lt hij), tail8_in (by omega)]
        have R2 : ∀ w, (Instr.slice 62 (.slice (some ⟨g, 0, none⟩) j c) none (some (.int .i64 (i : Int))) none).run Try.prog w = .ok (.slice (some ⟨g, 0, none⟩) i c) w := fun w => rows_head (w := w) _ (k := i) (by omega)
        have hcl : ∀ ty, ∃ zs : List Value, zs.length = (j - i) * 8 ∧ (Builtin.clear_ #[62] ty #[.slice (some ⟨g, i * 8, none⟩) (j - i) (c - i)]).run Try.prog wr = .ok (.tuple #[]) (wr.setCells g (i * 8) zs) := fun ty => clear_rows ty (by omega) (own_there HS.out.own (by omega))
        have HDr := Lib.hid (show D.take i = dropT L cl tm by rw [dropT_is, HS.out.lo, List.take_of_length_le (by rw [HN.out]; exact Nat.le_refl _)])
        obtain ⟨zs, hzl, hcl⟩ := hcl 0
        have HF := Lib.hid (show (wr.setCells g (i * 8) zs).ownsRow 0 70 8 (.slice (some ⟨g, 0, none⟩) i c) (dropT L cl tm).length (trCells (dropT L cl tm)) from by
          have h1 := own_cells (o := i * 8) (vs := zs) HS.out.own (by rw [hzl]; omega)
          have h2 := rows_prefix h1 (Nat.le_of_lt hij)
          rw [List.append_assoc, List.take_left' (by rw [List.length_take, trCells_len, HS.out.len]; omega), ← trCells_take, HDr.out] at h2
          have hl : (dropT L cl tm).length = i := by rw [← HDr.out, List.length_take, HS.out.len]; omega
          rw [hl]
          exact h2)
        have HTf := Lib.hid (HT1.out.trans ((HS.out.turn.trans (turn_many8 zs (i * 8) wr g)).mono (fun q _ e => show (Value.slice (some ⟨g, 0, none⟩) j c).ownBlock = some q by rw [e]; rfl)))
        clear hzl
        go_wp2_with fail
        go_ret
        exact ⟨_, rfl, HF.out, HTf.out, rfl⟩
set_option maxHeartbeats 1000000 in
theorem pdrop_any {w : World} {tb : Nat} {v : Value} {f n : Int} {L : List Tr} (h : Tb w tb v f n L) (cl tm : Int) : Calls Try.prog 22 #[.pointer (some ⟨tb, 0, none⟩), .int .i64 cl, .int .i64 tm] w fun e w' => e = .returned (.int .i64 ((L.length : Int) - ((dropT L cl tm).length : Int))) ∧ TbPost w tb v f n (dropT L cl tm) w' := by
  have hmf : ∀ (fn : Fn) (first cap : Array Value) (w : World), (Instr.makeFunc fn first cap).run Try.prog w = .ok (.func fn first cap) w := fun _ _ _ _ => rfl
  have hb : Below w.heap.size w ((w.alloc (.cells #[.int .i64 cl] 3)).alloc (.cells #[.int .i64 tm] 3)) := ((Below.refl _ _).alloc (Nat.le_refl _) _).alloc (by simp) _
  have HB := Lib.hid hb
  have HT := Lib.hid (h.below hb)
  have hk1 : ((w.alloc (.cells #[.int .i64 cl] 3)).alloc (.cells #[.int .i64 tm] 3)).cell? ⟨w.heap.size, 0, none⟩ = some (.int .i64 cl) := ((Blk.new w 3 #[.int .i64 cl]).alloc _).cell 0
  have hk2 : ((w.alloc (.cells #[.int .i64 cl] 3)).alloc (.cells #[.int .i64 tm] 3)).cell? ⟨w.heap.size + 1, 0, none⟩ = some (.int .i64 tm) := (Blk.new1 w _ 3 #[.int .i64 tm]).cell 0
  have HCap := Lib.hid (Cap.mk hk1 hk2)
  have hlt := h.row.lt
  have hnb1 : v.ownBlock ≠ some w.heap.size := fun e => by have := (hlt _ e).2; omega
  have hnb2 : v.ownBlock ≠ some (w.heap.size + 1) := fun e => by have := (hlt _ e).2; omega
  obtain ⟨w2, hw2⟩ : ∃ w2, (w.alloc (.cells #[.int .i64 cl] 3)).alloc (.cells #[.int .i64 tm] 3) = w2 := ⟨_, rfl⟩
  have HW2 := Lib.hid hw2
  rw [hw2] at HB HT HCap
  have HF := Lib.hid (h.ok.drop cl tm)
  have hm := h.ok.most
  obtain ⟨A, c, rfl, -, -⟩ := own_slice h.row
  obtain ⟨n0, hn0⟩ : ∃ n0, L.length = n0 := ⟨_, rfl⟩
  have HL := Lib.hid (plen_any HT.out)
  rw [hn0] at HT HL hnb1 hnb2 hm
  have HN0 := Lib.hid hn0
  have hrow := HT.out.row
  rw [hn0] at hrow
  have HD := Lib.hid (del_any hrow hn0 hm HCap.out hnb1 hnb2)
  have c2 : w2.cell? ⟨tb, 2, none⟩ = some (.slice A n0 c) := HT.out.blk.cell 2
  have HDl := Lib.hid (show (dropT L cl tm).length ≤ n0 by rw [← hn0]; exact List.length_filter_le _ _)
  obtain ⟨D, hD⟩ : ∃ D, dropT L cl tm = D := ⟨_, rfl⟩
  rw [hD] at HD HF HDl ⊢
  clear hrow h hlt hnb1 hnb2 hw2 hk1 hk2 hb hn0 hD
  go_enter Try.func22, Try.ntmps22
  go_wp2_with fail
  rw [HW2.out]
  refine HL.out.mono ?_
  rintro e w3 ⟨rfl, rfl⟩
  go_wp2_with fail
  refine HD.out.mono ?_
  rintro e w3 ⟨v', rfl, ho3, ht3, hv3⟩
  have hbk3 := ht3.blk HT.out.blk HT.out.ne
  have hne3 : v'.ownBlock ≠ some tb := own_blk_ne ho3 hbk3 (by decide)
  obtain ⟨A3, c3, rfl, -, -⟩ := own_slice ho3
  have HT4 := Lib.hid (show Tb (w3.setCell ⟨tb, 2, none⟩ (.slice A3 D.length c3)) tb (.slice A3 D.length c3) f n D from
    ⟨hbk3.set_ 2 _, own_far (p := ⟨tb, 2, none⟩) ho3 hne3 _, HF.out⟩)
  have HP := Lib.hid (show TbPost w tb (.slice A n0 c) f n D (w3.setCell ⟨tb, 2, none⟩ (.slice A3 D.length c3)) from
    ⟨_, HT4.out, fun g hg => Or.inl (hv3 ▸ hg), (turn_then (Turn.of_below (Z := TZ tb (.slice A n0 c)) HB.out) ht3 (fun j _ hj => Or.inr hj)).set_ ⟨tb, 2, none⟩ _ (Or.inl rfl)⟩)
  have s2 : w3.cell? ⟨tb, 2, none⟩ = some (.slice A n0 c) := hbk3.cell 2
  have s2f : w3.frozen? ⟨tb, 2, none⟩ = false := hbk3.frozen 2
  have HL4 := Lib.hid (plen_any HT4.out)
  obtain ⟨w4, hw4⟩ : ∃ w4, w3.setCell ⟨tb, 2, none⟩ (.slice A3 D.length c3) = w4 := ⟨_, rfl⟩
  rw [hw4] at HT4 HP HL4
  have HW4 := Lib.hid hw4
  have HE := Lib.hid (show IntKind.i64.wrap ((n0 : Int) - (D.length : Int)) = (n0 : Int) - (D.length : Int) by rw [IntKind.wrap_i64]; have := HDl.out; omega)
  obtain ⟨dl, hdl⟩ : ∃ dl, D.length = dl := ⟨_, rfl⟩
  have HDL := Lib.hid hdl
  rw [hdl] at HE HL4 HW4
  have hle : dl ≤ n0 := by have := HDl.out; omega
  clear ho3 ht3 hv3 hbk3 hne3 hw4
  go_wp2_with fail
  rw [HW4.out]
  refine HL4.out.mono ?_
  rintro e w5 ⟨rfl, rfl⟩
  go_wp2_with fail
  go_ret
  exact ⟨by rw [HN0.out]; first | (simp [HE.out, HDL.out]; done) | rfl, by rw [HN0.out]; exact HP.out⟩
end Go.Proofs.Ytbpefdnlldpjiaa
