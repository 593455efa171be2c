/- The contract of the document's Order. -/
import Derived.Test.YtbebfgfpdcdcoaaGreatOS4
import Derived.Deep.RegionLaw
import Derived.Maps.AppendAt
import Derived.StillTailTactics
import Derived.IntWalk
import Derived.Laws.OwnMore
namespace Go.Proofs.YtbebfgfpdcdcoaaGreat
open Go.RowKit

theorem info_req : (Tryz.prog.info? 69).map (fun i => (i.zero, i.size, i.bytes)) = some (some (.agg #[.int .i64 0, .int .i64 0, .int .i64 0, .int .i64 0, .int .i64 0, .int .i64 0]), 6, 48) := by kernel_rfl
theorem reqCells_one (l : List Rq) : ∀ u ∈ reqCells l, u.oneCell' = true := by
  intro u hu
  obtain ⟨v, _, hv⟩ := List.mem_flatMap.1 hu
  simp [Rq.cells] at hv
  rcases hv with rfl | rfl | rfl | rfl | rfl | rfl <;> rfl
theorem reqCells_app (l m : List Rq) : reqCells (l ++ m) = reqCells l ++ reqCells m := by simp [reqCells]
/-- append of any slice (nil too) to a row of the call's own, elements of some cells each. -/
theorem run_apps {P : Program} {w : World} (t ty : TypeId) (base : Nat) (e : TypeId) (i : TypeInfo) (z : Value) (size bytes : Nat) (ht : P.underlying t = some (.slice e)) (hi : P.info? e = some i) (hz : i.zero = some z)
    (hsize : i.size = size) (hby : i.bytes = bytes) (hzs : z.cells.size = size) (hs0 : 0 < size)
    (v : Value) (n : Nat) (xs : List Value) (hown : w.ownsRow base e size v n xs)
    (B : Nat) (A : Option Addr) (m c : Nat) (news : List Value) (hl : news.length = m * size) (hh : Has w B A news) (hn : A = none → c = 0) (h1 : ∀ u ∈ news, u.oneCell' = true)
    (h63 : n + m ≤ maxLen) (hbytes : (n + m) * bytes ≤ 140737488355328) (hbase : base ≤ w.heap.size) :
    ∃ v' w', (Builtin.append_ #[t, t] ty #[v, .slice A m c]).run P w = .ok v' w' ∧ w'.ownsRow base e size v' (n + m) (xs ++ news) ∧ w.grownBy w' v.ownBlock ∧ (v'.ownBlock = v.ownBlock ∨ v'.ownBlock = some w.heap.size) := by
  cases A with
  | none =>
    have hm : news = [] := by
      cases news with
      | nil => rfl
      | cons u r =>
        obtain ⟨_, hA, _⟩ := hh 0 u rfl
        cases hA
    subst hm
    obtain rfl : m = 0 := by
      have : m * size = 0 := by simpa using hl.symm
      rcases Nat.mul_eq_zero.1 this with h | h <;> omega
    obtain rfl := hn rfl
    exact ⟨v, w, run_append_owned_none (P := P) (w := w) base t ty e i size ht hi v n xs hown, by simpa using hown, World.grownBy.refl w _, Or.inl rfl⟩
  | some ad =>
    obtain ⟨v', w', h2, h3, h4, _, h5⟩ := run_append_own_at (P := P) w base t ty e i z size bytes ht hi hz hsize hby hzs hs0 v n xs hown ad m c news hl (fun j u hu => by
      obtain ⟨_, hA, _, hc⟩ := hh j u hu
      cases hA
      exact hc) h1 h63 hbytes hbase
    exact ⟨v', w', h2, h3, h4, h5⟩
theorem step_apps {P : Program} {w : World} {ops : Array Oper} {o : Oper} {a : Act} {K : Act → World → Prop} {Q : Exit → Act → World → Prop} {E : Prop} (hgd : o.guard = none) (s x : Operand) (t : TypeId)
    (ho : o.op = .call { callee := .builtin .append, args := #[s, x], argTypes := #[t, t] })
    (base : Nat) (e : TypeId) (i : TypeInfo) (z : Value) (size bytes : Nat) (ht : P.underlying t = some (.slice e)) (hi : P.info? e = some i) (hz : i.zero = some z)
    (hsize : i.size = size) (hby : i.bytes = bytes) (hzs : z.cells.size = size) (hs0 : 0 < size)
    (v : Value) (n : Nat) (xs : List Value) (hs : a.eval s = v) (hown : w.ownsRow base e size v n xs)
    (B : Nat) (A : Option Addr) (m c : Nat) (news : List Value) (hx : a.eval x = .slice A m c) (hl : news.length = m * size) (hh : Has w B A news) (hn : A = none → c = 0) (h1 : ∀ u ∈ news, u.oneCell' = true)
    (h63 : n + m ≤ maxLen) (hbytes : (n + m) * bytes ≤ 140737488355328) (hbase : base ≤ w.heap.size)
    (h : ∀ v' w', w'.ownsRow base e size v' (n + m) (xs ++ news) → w.grownBy w' v.ownBlock → (v'.ownBlock = v.ownBlock ∨ v'.ownBlock = some w.heap.size) → K (a.put o.dst v') w') :
    if Region.wanted o (yielded ops a.tmps) = true then Oper.wp P o a w K Q else E := by
  have hw : Region.wanted o (yielded ops a.tmps) = true := by simp [Region.wanted, hgd]
  rw [if_pos hw]
  obtain ⟨v', w', hr, h2, h3, h4⟩ := run_apps (P := P) (w := w) t o.type base e i z size bytes ht hi hz hsize hby hzs hs0 v n xs hown B A m c news hl hh hn h1 h63 hbytes hbase
  unfold Oper.wp execOp
  simp only [ho, resolve, invoke, builtin, Sem.run_bind, Sem.run_pure, Result.andThen_ok, List.map_toArray, List.map_cons, List.map_nil, hs, hx, hr]
  exact h v' w' h2 h3 h4

theorem wpList_apps {P : Program} {w : World} {ops : Array Oper} {rest : List Oper} {o : Oper} {a : Act} {Q : Exit → Act → World → Prop} (hgd : o.guard = none) (s x : Operand) (t : TypeId)
    (ho : o.op = .call { callee := .builtin .append, args := #[s, x], argTypes := #[t, t] })
    (base : Nat) (e : TypeId) (i : TypeInfo) (z : Value) (size bytes : Nat) (ht : P.underlying t = some (.slice e)) (hi : P.info? e = some i) (hz : i.zero = some z)
    (hsize : i.size = size) (hby : i.bytes = bytes) (hzs : z.cells.size = size) (hs0 : 0 < size)
    (v : Value) (n : Nat) (xs : List Value) (hs : a.eval s = v) (hown : w.ownsRow base e size v n xs)
    (B : Nat) (A : Option Addr) (m c : Nat) (news : List Value) (hx : a.eval x = .slice A m c) (hl : news.length = m * size) (hh : Has w B A news) (hn : A = none → c = 0) (h1 : ∀ u ∈ news, u.oneCell' = true)
    (h63 : n + m ≤ maxLen) (hbytes : (n + m) * bytes ≤ 140737488355328) (hbase : base ≤ w.heap.size)
    (h : ∀ v' w', w'.ownsRow base e size v' (n + m) (xs ++ news) → w.grownBy w' v.ownBlock → (v'.ownBlock = v.ownBlock ∨ v'.ownBlock = some w.heap.size) → wpList P ops Q rest (a.put o.dst v') w') : wpList P ops Q (o :: rest) a w := by
  refine wpList_plain hgd fun K hK => ?_
  obtain ⟨v', w', hr, h2, h3, h4⟩ := run_apps (P := P) (w := w) t o.type base e i z size bytes ht hi hz hsize hby hzs hs0 v n xs hown B A m c news hl hh hn h1 h63 hbytes hbase
  unfold Oper.wp
  simp [execOp, ho, resolve, invoke, builtin, hs, hx, hr, Result.andThen]
  exact hK _ _ (h v' w' h2 h3 h4)

structure OrdSt (w : World) (zs : List Rq) (i : Nat) (out : List Rq) (v : Value) (wr : World) : Prop where
  own : wr.ownsRow w.heap.size 69 6 v out.length (reqCells out)
  low : Below w.heap.size w wr
  is : orderS (zs.take i) = out
structure PlSt (w : World) (out : List Rq) (r : Rq) (v : Value) (k : Nat) (wr : World) : Prop where
  own : wr.ownsRow w.heap.size 69 6 v out.length (reqCells out)
  low : Below w.heap.size w wr
  is : place r out out.length = place r out k
theorem order_next {zs out : List Rq} {i : Nat} {r : Rq} (h : zs[i]? = some r) (ho : orderS (zs.take i) = out) : orderS (zs.take (i + 1)) = insS out r := by
  rw [List.take_add_one, h, ← ho]
  exact orderS_snoc _ _
theorem ins_had {out : List Rq} {r : Rq} (h : hasB out r = true) : insS out r = out := if_pos (of_decide_eq_true h)
theorem ins_new {out : List Rq} {r : Rq} (h : hasB out r = false) : insS out r = putS r out (place r out out.length) := if_neg (of_decide_eq_false h)
theorem place_stop {r x : Rq} {out : List Rq} {k : Nat} (h : out[k]? = some x) (hc : ¬ cmpR r x < 0) : place r out (k + 1) = k + 1 := by
  unfold place; rw [h]; exact if_neg hc
theorem place_down {r x : Rq} {out : List Rq} {k : Nat} (h : out[k]? = some x) (hc : cmpR r x < 0) : place r out (k + 1) = place r out k := by
  conv => lhs; unfold place
  rw [h]; exact if_pos hc

/-- Where a slice's rest lies. -/
def tailA (A : Option Addr) (c k : Nat) : Option Addr := if c = k then A else A.map fun x => x.add (k * 6)
set_option maxRecDepth 100000 in
theorem slice_head {w : World} (A : Option Addr) {n c k : Nat} (h : k ≤ c) : (Instr.slice 22 (.slice A n c) none (some (.int .i64 k)) none).run Tryz.prog w = .ok (.slice A k c) w := by
  rw [run_slice_h w 22 A n c Tryz.underlying22 .i64 k (by omega) (by omega)]
  have : (sizeOf (Tryz.prog.elem 22)).run Tryz.prog w = .ok 6 w := by kernel_rfl
  rw [this]
  show Result.ok (sliced A 0 (k : Int).toNat c 6) w = _
  unfold sliced
  cases A with
  | none => simp
  | some a => simp [Addr.add]
set_option maxRecDepth 100000 in
theorem slice_tail {w : World} (A : Option Addr) {n c k : Nat} (h : k ≤ n) : (Instr.slice 22 (.slice A n c) (some (.int .i64 k)) none none).run Tryz.prog w = .ok (.slice (tailA A c k) (n - k) (c - k)) w := by
  rw [run_slice_l w 22 A n c Tryz.underlying22 .i64 k (by omega) (by omega)]
  have : (sizeOf (Tryz.prog.elem 22)).run Tryz.prog w = .ok 6 w := by kernel_rfl
  rw [this]
  show Result.ok (sliced A (k : Int).toNat n c 6) w = _
  unfold sliced tailA
  simp
theorem reqCells_drop (l : List Rq) (k : Nat) : reqCells (l.drop k) = (reqCells l).drop (k * 6) := by
  induction k generalizing l with
  | zero => simp
  | succ k ih =>
    cases l with
    | nil => simp [reqCells]
    | cons x l =>
      rw [List.drop_succ_cons, ih]
      show (reqCells l).drop (k * 6) = (Rq.cells x ++ reqCells l).drop ((k + 1) * 6)
      have h6 : (Rq.cells x).length = 6 := rfl
      rw [show (k + 1) * 6 = (Rq.cells x).length + k * 6 by rw [h6]; omega, ← List.drop_drop, List.drop_left]
theorem reqCells_take (l : List Rq) (k : Nat) : reqCells (l.take k) = (reqCells l).take (k * 6) := by
  have h : reqCells (l.take k) ++ reqCells (l.drop k) = (reqCells l).take (k * 6) ++ (reqCells l).drop (k * 6) := by
    rw [← reqCells_app, List.take_append_drop, List.take_append_drop]
  rw [reqCells_drop] at h
  exact List.append_cancel_right h
theorem has_tail {w : World} {B c k : Nat} {A : Option Addr} {l : List Rq} (h : Has w B A (reqCells l)) (hc : l.length ≤ c) (hk : k ≤ l.length) : Has w B (tailA A c k) (reqCells (l.drop k)) := fun j u hj => by
  unfold tailA
  by_cases e : c = k
  · rw [List.drop_eq_nil_of_le (by omega)] at hj
    simp [reqCells] at hj
  · rw [if_neg e]
    rw [reqCells_drop, List.getElem?_drop] at hj
    obtain ⟨ad, rfl, hb, hcell⟩ := h _ u hj
    exact ⟨ad.add (k * 6), rfl, by rw [addr_block]; exact hb, by rw [addr_add]; exact hcell⟩
theorem tail_none {A : Option Addr} {c k : Nat} (h : A = none → c = 0) (e : tailA A c k = none) : c - k = 0 := by
  unfold tailA at e
  cases A with
  | none => rw [h rfl]; omega
  | some a =>
    split at e
    · cases e
    · cases e
theorem own_none1 {w : World} {base n c s : Nat} {e : TypeId} {A : Option Addr} {xs : List Value} (h : w.ownsRow base e s (.slice A n c) n xs) : A = none → c = 0 := by
  intro hA
  rcases h.2 with ⟨h2, _⟩ | ⟨g, cap, cur, hv, _⟩
  · injection h2
  · subst hA
    injection hv with h3
    cases h3
theorem own_prefix {w : World} {base n c k s : Nat} {e : TypeId} {A : Option Addr} {xs : List Value} (h : w.ownsRow base e s (.slice A n c) n xs) (hk : k ≤ n) : w.ownsRow base e s (.slice A k c) k (xs.take (k * s)) := by
  have hks : k * s ≤ n * s := Nat.mul_le_mul_right s hk
  refine ⟨by rw [List.length_take, h.1]; omega, ?_⟩
  rcases h.2 with ⟨h2, h3⟩ | ⟨g, cap, cur, hv, hg, hb, hc, hm, hz, ht⟩
  · injection h2 with a1 a2 a3
    subst a1 a3
    exact Or.inl ⟨by rw [show k = 0 by omega], by omega⟩
  · injection hv with a1 a2 a3
    subst a1 a3
    exact Or.inr ⟨g, c, cur, rfl, hg, hb, by omega, hm, hz, by rw [← ht, List.take_take, Nat.min_eq_left hks]⟩
theorem own_box {w : World} {r : Rq} : (w.alloc (.cells #[.int .i64 r.cl, .int .i64 r.tm, .int .i64 r.kd, .int .i64 r.ky, .int .i64 r.vl, .int .i64 r.sg] 69)).ownsRow w.heap.size 69 6 (.slice (some ⟨w.heap.size, 0, none⟩) 1 1) 1 (Rq.cells r) :=
  World.ownsRow_lit w #[.int .i64 r.cl, .int .i64 r.tm, .int .i64 r.kd, .int .i64 r.ky, .int .i64 r.vl, .int .i64 r.sg] 1 (Nat.le_refl _) (by unfold maxLen; omega) (by rfl)
theorem putS_len {r : Rq} {out : List Rq} {k : Nat} (h : k ≤ out.length) : (putS r out k).length = k + (1 + (out.length - k)) := by
  unfold putS; rw [List.length_append, List.length_cons, List.length_take, List.length_drop]; omega
theorem putS_cells (r : Rq) (out : List Rq) (k : Nat) : reqCells (putS r out k) = (reqCells out).take (k * 6) ++ (Rq.cells r ++ reqCells (out.drop k)) := by
  unfold putS
  rw [reqCells_app, reqCells_take]
  rfl
/-- What the last statement of a round leaves. -/
theorem ord_put {w w3 w4 w5 : World} {zs out : List Rq} {i k n2 : Nat} {r : Rq} {A Ac : Option Addr} {cv cc : Nat} (hx : zs[i]? = some r) (hoi : orderS (zs.take i) = out) (hi : insS out r = putS r out k) (hk : k ≤ out.length)
    (hlow : Below w.heap.size w w3) (hg4 : ((w3.drew).alloc (.cells #[.int .i64 r.cl, .int .i64 r.tm, .int .i64 r.kd, .int .i64 r.ky, .int .i64 r.vl, .int .i64 r.sg] 69)).grownBy w4 (some w3.heap.size))
    (hop : w4.ownsRow w.heap.size 69 6 (.slice A k cv) k ((reqCells out).take (k * 6))) (hg5 : w4.grownBy w5 (Value.slice A k cv).ownBlock)
    (ho5 : w5.ownsRow w.heap.size 69 6 (.slice Ac n2 cc) (k + (1 + (out.length - k))) ((reqCells out).take (k * 6) ++ (Rq.cells r ++ reqCells (out.drop k)))) : OrdSt w zs (i + 1) (putS r out k) (.slice Ac n2 cc) w5 := by
  refine ⟨by rw [putS_len hk, putS_cells]; exact ho5, ?_, by rw [order_next hx hoi, hi]⟩
  have h1 : Below w.heap.size w w3.drew := hlow.trans ⟨rfl, rfl, rfl, Nat.le_refl _, fun _ _ => rfl⟩
  have h2 := h1.alloc h1.size (.cells #[.int .i64 r.cl, .int .i64 r.tm, .int .i64 r.kd, .int .i64 r.ky, .int .i64 r.vl, .int .i64 r.sg] 69)
  have h3 : Below w.heap.size w w4 := h2.grown hg4 h2.size (fun k hk => by cases hk; exact hlow.size)
  exact h3.grown hg5 h3.size (fun k hk => (hop.lt k hk).1)
set_option maxHeartbeats 4000000 in
set_option maxRecDepth 100000 in
theorem rorder_any (A : Option Addr) (c : Nat) (zs : List Rq) (B : Nat) (w : World) (hl : zs.length ≤ 1000000) (h1 : Has w B A (reqCells zs)) :
    Calls Tryz.prog 116 #[.slice A zs.length c] w fun e w' => ∃ v, e = .returned v ∧ w'.ownsRow w.heap.size 69 6 v (orderS zs).length (reqCells (orderS zs)) ∧ Below w.heap.size w w' := by
  have H1 := Lib.hid h1.tight
  clear h1
  go_enter Tryz.func116, Tryz.ntmps116
  go_wp2_with fail
  go_loopw [3, 4] (fun v x wr => ∃ (i : Nat) (out : List Rq), x = .int .i64 i ∧ i ≤ zs.length ∧ out.length ≤ i ∧ Hid (OrdSt w zs i out v wr)) (fun _ x _ => zs.length - (intOf x).toNat)
  case atStart => exact ⟨0, [], rfl, Nat.zero_le _, Nat.le_refl _, World.ownsRow_nil _ _ _ _, Below.refl _ _, rfl⟩
  case round =>
    obtain ⟨i, out, rfl, hi, hol, HS⟩ := hrel
    by_cases hlt : i < zs.length
    · obtain ⟨Av, cv, hv, hcv1, hcv2⟩ := own_slice HS.out.own
      subst hv
      obtain ⟨a1, rfl, _, c0, c1, c2, c3, c4, c5⟩ := (H1.out.below HS.out.low (Nat.le_refl _)).req hlt
      have HX := Lib.hid (show zs[i]? = some zs[i] from List.getElem?_eq_getElem hlt)
      obtain ⟨r, hr⟩ : ∃ r, zs[i] = r := ⟨_, rfl⟩
      rw [hr] at c0 c1 c2 c3 c4 c5 HX
      have HC := Lib.hid (rhas_any Av cv out r _ wr (by omega) (has_rows HS.out.own))
      clear hr
      cases hb : hasB out r
      · rw [hb] at HC
        have HI := Lib.hid (ins_new hb)
        have HSz := Lib.hid HS.out.low.size
        clear hb
        go_wp2_with fail
        refine HC.out.mono ?_
        rintro e w2 ⟨rfl, hb2⟩
        have HP0 := Lib.hid (show PlSt w out r (.slice Av out.length cv) out.length w2 from ⟨below_own HS.out.own hb2 (Nat.le_refl _), HS.out.low.trans (hb2.mono HS.out.low.size), rfl⟩)
        have HOi := Lib.hid HS.out.is
        clear hb2 HS HC c0 c1 c2 c3 c4 c5
        go_wp2_with fail
        go_loopw [5] (fun y wr => ∃ k : Nat, y = .int .i64 k ∧ k ≤ out.length ∧ Hid (PlSt w out r (.slice Av out.length cv) k wr)) (fun y _ => (intOf y).toNat)
        case atStart => exact ⟨out.length, rfl, Nat.le_refl _, HP0.out⟩
        case round =>
          obtain ⟨k, rfl, hk, HP⟩ := hrel
          obtain ⟨_, he, _, c0, c1, c2, c3, c4, c5⟩ := (H1.out.below HP.out.low (Nat.le_refl _)).req hlt
          cases he
          have hgx := List.getElem?_eq_getElem hlt
          rw [HX.out] at hgx
          rw [← Option.some.inj hgx] at c0 c1 c2 c3 c4 c5
          clear hgx
          by_cases hk0 : 0 < k
          · obtain ⟨j, hj⟩ : ∃ j, k - 1 = j := ⟨_, rfl⟩
            have hjn : j < out.length := by omega
            obtain ⟨a2, rfl, _, d0, d1, d2, d3, d4, d5⟩ := (has_rows HP.out.own).req hjn
            have HY := Lib.hid (show out[j]? = some out[j] from List.getElem?_eq_getElem hjn)
            obtain ⟨y, hy⟩ : ∃ y, out[j] = y := ⟨_, rfl⟩
            rw [hy] at d0 d1 d2 d3 d4 d5 HY
            have HCm := Lib.hid (fun w => rcompare_any r y w)
            have HLow := Lib.hid (show PlSt w out r (.slice (some a2) out.length cv) k wr.drew from ⟨HP.out.own.drew, HP.out.low.trans ⟨rfl, rfl, rfl, Nat.le_refl _, fun _ _ => rfl⟩, HP.out.is⟩)
            have HK := Lib.hid (show k = j + 1 by omega)
            clear hy
            have hj1 : IntKind.i64.wrap ((k : Int) - 1) = (j : Int) := by rw [IntWalk.i64_in _ (by omega)]; omega
            have hg1 : decide (0 < k) = true := decide_eq_true hk0
            clear hj
            go_wp2_with fail
            go_still_tail 12, (by kernel_rfl)
            change wpList _ _ _ _ _ wr.drew
            by_cases hc : cmpR r y < 0
            · have HP2 := Lib.hid (show place r out out.length = place r out j by rw [HP.out.is, HK.out, place_down HY.out hc])
              have hlt0 : decide (cmpR r y < 0) = true := decide_eq_true hc
              clear hc
              go_wp2_with fail
              refine (HCm.out _).mono ?_
              rintro e w3 ⟨rfl, hb3⟩
              have HP3 := Lib.hid (show PlSt w out r (.slice (some a2) out.length cv) j w3 from ⟨below_own HLow.out.own hb3 (Nat.le_refl _), HLow.out.low.trans (hb3.mono HLow.out.low.size), HP2.out⟩)
              clear hb3 HLow
              go_wp2_with fail
              go_roundw
              case rel => exact ⟨j, by have := HK.out; first | rfl | (congr 1; omega), by have := HK.out; omega, HP3.out⟩
              case measure => have := HK.out; simp [intOf]; omega
            · have HP2 := Lib.hid (show place r out out.length = k by rw [HP.out.is, HK.out, place_stop HY.out hc])
              have hlt0 : decide (cmpR r y < 0) = false := decide_eq_false hc
              clear hc
              go_wp2_with fail
              refine (HCm.out _).mono ?_
              rintro e w3 ⟨rfl, hb3⟩
              have HP3 := Lib.hid (show PlSt w out r (.slice (some a2) out.length cv) k w3 from ⟨below_own HLow.out.own hb3 (Nat.le_refl _), HLow.out.low.trans (hb3.mono HLow.out.low.size), HLow.out.is⟩)
              clear hb3
              go_wp2_with fail
              clear hlt0 HLow HP d0 d1 d2 d3 d4 d5 c0 c1 c2 c3 c4 c5 hj1 HCm
              have HPk := Lib.hid (show insS out r = putS r out k by rw [HI.out, HP2.out])
              have R1 := fun (w : World) => slice_head (w := w) (some a2) (n := out.length) (c := cv) (k := k) (by omega)
              have R2 := fun (w : World) => slice_tail (w := w) (some a2) (n := out.length) (c := cv) hk
              obtain ⟨i0, hi0, hx0, hx1, hx2⟩ := info_parts info_req
              obtain ⟨_, he, _, c0, c1, c2, c3, c4, c5⟩ := (H1.out.below HP3.out.low (Nat.le_refl _)).req hlt
              cases he
              have hgx := List.getElem?_eq_getElem hlt
              rw [HX.out] at hgx
              rw [← Option.some.inj hgx] at c0 c1 c2 c3 c4 c5
              clear hgx
              have hoX := own_box (w := w3.drew) (r := r)
              have hoO := HP3.out.own.drew.alloc (.cells #[.int .i64 r.cl, .int .i64 r.tm, .int .i64 r.kd, .int .i64 r.ky, .int .i64 r.vl, .int .i64 r.sg] 69)
              have HTl := Lib.hid (has_tail (has_rows hoO) hcv1 hk)
              have HTn := Lib.hid (fun e => tail_none (k := k) (own_none1 hoO) e)
              have HT1 := Lib.hid (reqCells_one (out.drop k))
              have HTL := Lib.hid (show (reqCells (out.drop k)).length = (out.length - k) * 6 by rw [reqCells_len, List.length_drop])
              have HM1 := Lib.hid (show 1 + (out.length - k) ≤ maxLen by unfold maxLen; omega)
              have HM2 := Lib.hid (show (1 + (out.length - k)) * 48 ≤ 140737488355328 by omega)
              have HM3 := Lib.hid (show k + (1 + (out.length - k)) ≤ maxLen by unfold maxLen; omega)
              have HM4 := Lib.hid (show (k + (1 + (out.length - k))) * 48 ≤ 140737488355328 by omega)
              have HM5 := Lib.hid (show w3.drew.heap.size ≤ (w3.drew.alloc (.cells #[.int .i64 r.cl, .int .i64 r.tm, .int .i64 r.kd, .int .i64 r.ky, .int .i64 r.vl, .int .i64 r.sg] 69)).heap.size by simp)
              have HT2 := Lib.hid (show ∀ u ∈ Rq.cells r ++ reqCells (out.drop k), u.oneCell' = true from reqCells_one (r :: out.drop k))
              have HM6 := Lib.hid (show w.heap.size ≤ (w3.drew.alloc (.cells #[.int .i64 r.cl, .int .i64 r.tm, .int .i64 r.kd, .int .i64 r.ky, .int .i64 r.vl, .int .i64 r.sg] 69)).heap.size by have := HP3.out.low.size; simp; omega)
              have HNE := Lib.hid (show (Value.slice (some a2) out.length cv).ownBlock ≠ some w3.heap.size from fun e => by have := (HP3.out.own.lt _ e).2; omega)
              have HLw := Lib.hid HP3.out.low
              clear HP3
              go_region_law (first
                | (refine step_apps rfl (.tmp 44) (.tmp 47) 22 rfl w3.drew.heap.size 69 i0 (.agg #[.int .i64 0, .int .i64 0, .int .i64 0, .int .i64 0, .int .i64 0, .int .i64 0]) 6 48 Tryz.underlying22 hi0 hx0 hx1 hx2 rfl (by decide) (.slice (some ⟨w3.drew.heap.size, 0, none⟩) 1 1) 1 (Rq.cells r) rfl hoX _ (tailA (some a2) cv k) (out.length - k) (cv - k) (reqCells (out.drop k)) rfl HTL.out HTl.out HTn.out HT1.out HM1.out HM2.out HM5.out ?_
                   intro vb w4 hob hgb hlb
                   obtain ⟨Ab, cb, rfl, _, _⟩ := own_slice hob
                   have hop := own_prefix (hoO.kept hgb (Or.inr HNE.out)) hk
                   have hbs := Nat.le_trans HM6.out hgb.size)
                | (refine step_apps rfl (.tmp 39) (.tmp 48) 22 rfl w.heap.size 69 i0 (.agg #[.int .i64 0, .int .i64 0, .int .i64 0, .int .i64 0, .int .i64 0, .int .i64 0]) 6 48 Tryz.underlying22 hi0 hx0 hx1 hx2 rfl (by decide) (.slice (some a2) k cv) k ((reqCells out).take (k * 6)) rfl hop _ Ab (1 + (out.length - k)) cb (Rq.cells r ++ reqCells (out.drop k)) rfl (by rw [List.length_append, HTL.out]; show 6 + _ = _; omega) (has_rows hob) (own_none1 hob) HT2.out HM3.out HM4.out hbs ?_
                   intro vc w5 hoc hgc hlc
                   obtain ⟨Ac, cc, rfl, _, _⟩ := own_slice hoc))
              have HO := Lib.hid (ord_put HX.out HOi.out HPk.out hk HLw.out hgb hop hgc hoc)
              have HZ := Lib.hid (show (putS r out k).length ≤ i + 1 by rw [putS_len hk]; omega)
              clear hob hgb hlb hop hbs hoc hgc hlc hoX hoO R1 R2 c0 c1 c2 c3 c4 c5
              go_wp2_with fail
              go_roundw
              case rel => exact ⟨i + 1, putS r out k, by go_num, by omega, HZ.out, HO.out⟩
              case measure => simp [intOf]; omega
          · have HP2 := Lib.hid (show place r out out.length = k by rw [HP.out.is, show k = 0 by omega]; rfl)
            have hg1 : decide (0 < k) = false := decide_eq_false hk0
            have HPd := Lib.hid (fun m => show PlSt w out r (.slice Av out.length cv) k (wr.drewN m) from ⟨HP.out.own, HP.out.low.trans ⟨rfl, rfl, rfl, Nat.le_refl _, fun _ _ => rfl⟩, HP.out.is⟩)
            clear HP c0 c1 c2 c3 c4 c5
            go_wp2_with fail
            go_quiet (fail)
            have HP3 := Lib.hid (HPd.out nq)
            obtain ⟨w3, hw3⟩ : ∃ w3, wr.drewN nq = w3 := ⟨_, rfl⟩
            rw [hw3] at HP3 ⊢
            clear hw3 HPd hg1
            go_wp2_with fail
            have HPk := Lib.hid (show insS out r = putS r out k by rw [HI.out, HP2.out])
            have R1 := fun (w : World) => slice_head (w := w) Av (n := out.length) (c := cv) (k := k) (by omega)
            have R2 := fun (w : World) => slice_tail (w := w) Av (n := out.length) (c := cv) hk
            obtain ⟨i0, hi0, hx0, hx1, hx2⟩ := info_parts info_req
            obtain ⟨_, he, _, c0, c1, c2, c3, c4, c5⟩ := (H1.out.below HP3.out.low (Nat.le_refl _)).req hlt
            cases he
            have hgx := List.getElem?_eq_getElem hlt
            rw [HX.out] at hgx
            rw [← Option.some.inj hgx] at c0 c1 c2 c3 c4 c5
            clear hgx
            have hoX := own_box (w := w3.drew) (r := r)
            have hoO := HP3.out.own.drew.alloc (.cells #[.int .i64 r.cl, .int .i64 r.tm, .int .i64 r.kd, .int .i64 r.ky, .int .i64 r.vl, .int .i64 r.sg] 69)
            have HTl := Lib.hid (has_tail (has_rows hoO) hcv1 hk)
            have HTn := Lib.hid (fun e => tail_none (k := k) (own_none1 hoO) e)
            have HT1 := Lib.hid (reqCells_one (out.drop k))
            have HTL := Lib.hid (show (reqCells (out.drop k)).length = (out.length - k) * 6 by rw [reqCells_len, List.length_drop])
            have HM1 := Lib.hid (show 1 + (out.length - k) ≤ maxLen by unfold maxLen; omega)
            have HM2 := Lib.hid (show (1 + (out.length - k)) * 48 ≤ 140737488355328 by omega)
            have HM3 := Lib.hid (show k + (1 + (out.length - k)) ≤ maxLen by unfold maxLen; omega)
            have HM4 := Lib.hid (show (k + (1 + (out.length - k))) * 48 ≤ 140737488355328 by omega)
            have HM5 := Lib.hid (show w3.drew.heap.size ≤ (w3.drew.alloc (.cells #[.int .i64 r.cl, .int .i64 r.tm, .int .i64 r.kd, .int .i64 r.ky, .int .i64 r.vl, .int .i64 r.sg] 69)).heap.size by simp)
            have HT2 := Lib.hid (show ∀ u ∈ Rq.cells r ++ reqCells (out.drop k), u.oneCell' = true from reqCells_one (r :: out.drop k))
            have HM6 := Lib.hid (show w.heap.size ≤ (w3.drew.alloc (.cells #[.int .i64 r.cl, .int .i64 r.tm, .int .i64 r.kd, .int .i64 r.ky, .int .i64 r.vl, .int .i64 r.sg] 69)).heap.size by have := HP3.out.low.size; simp; omega)
            have HNE := Lib.hid (show (Value.slice Av out.length cv).ownBlock ≠ some w3.heap.size from fun e => by have := (HP3.out.own.lt _ e).2; omega)
            have HLw := Lib.hid HP3.out.low
            clear HP3
            go_region_law (first
              | (refine step_apps rfl (.tmp 44) (.tmp 47) 22 rfl w3.drew.heap.size 69 i0 (.agg #[.int .i64 0, .int .i64 0, .int .i64 0, .int .i64 0, .int .i64 0, .int .i64 0]) 6 48 Tryz.underlying22 hi0 hx0 hx1 hx2 rfl (by decide) (.slice (some ⟨w3.drew.heap.size, 0, none⟩) 1 1) 1 (Rq.cells r) rfl hoX _ (tailA Av cv k) (out.length - k) (cv - k) (reqCells (out.drop k)) rfl HTL.out HTl.out HTn.out HT1.out HM1.out HM2.out HM5.out ?_
                 intro vb w4 hob hgb hlb
                 obtain ⟨Ab, cb, rfl, _, _⟩ := own_slice hob
                 have hop := own_prefix (hoO.kept hgb (Or.inr HNE.out)) hk
                 have hbs := Nat.le_trans HM6.out hgb.size)
              | (refine step_apps rfl (.tmp 39) (.tmp 48) 22 rfl w.heap.size 69 i0 (.agg #[.int .i64 0, .int .i64 0, .int .i64 0, .int .i64 0, .int .i64 0, .int .i64 0]) 6 48 Tryz.underlying22 hi0 hx0 hx1 hx2 rfl (by decide) (.slice Av k cv) k ((reqCells out).take (k * 6)) rfl hop _ Ab (1 + (out.length - k)) cb (Rq.cells r ++ reqCells (out.drop k)) rfl (by rw [List.length_append, HTL.out]; show 6 + _ = _; omega) (has_rows hob) (own_none1 hob) HT2.out HM3.out HM4.out hbs ?_
                 intro vc w5 hoc hgc hlc
                 obtain ⟨Ac, cc, rfl, _, _⟩ := own_slice hoc))
            have HO := Lib.hid (ord_put HX.out HOi.out HPk.out hk HLw.out hgb hop hgc hoc)
            have HZ := Lib.hid (show (putS r out k).length ≤ i + 1 by rw [putS_len hk]; omega)
            clear hob hgb hlb hop hbs hoc hgc hlc hoX hoO R1 R2 c0 c1 c2 c3 c4 c5
            go_wp2_with fail
            go_roundw
            case rel => exact ⟨i + 1, putS r out k, by go_num, by omega, HZ.out, HO.out⟩
            case measure => simp [intOf]; omega
      · rw [hb] at HC
        have HI := Lib.hid (ins_had hb)
        clear hb
        go_wp2_with fail
        refine HC.out.mono ?_
        rintro e w2 ⟨rfl, hb2⟩
        have HS2 := Lib.hid (show OrdSt w zs (i + 1) out (.slice Av out.length cv) w2 from ⟨below_own HS.out.own hb2 (Nat.le_refl _), HS.out.low.trans (hb2.mono HS.out.low.size), by rw [order_next HX.out HS.out.is, HI.out]⟩)
        clear hb2
        go_wp2_with fail
        go_roundw
        case rel => exact ⟨i + 1, out, by go_num, by omega, by omega, HS2.out⟩
        case measure => simp [intOf]; omega
    · obtain rfl : i = zs.length := by omega
      have HE := Lib.hid (show orderS zs = out by have := HS.out.is; rwa [List.take_of_length_le (Nat.le_refl _)] at this)
      go_wp2_with fail
      go_ret
      exact ⟨_, rfl, by rw [HE.out]; exact HS.out.own, HS.out.low⟩
end Go.Proofs.YtbebfgfpdcdcoaaGreat
