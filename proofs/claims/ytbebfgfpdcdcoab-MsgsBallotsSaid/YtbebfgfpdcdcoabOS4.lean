/- The contracts of the document's ReqBody and Compare. -/
import Derived.Test.YtbebfgfpdcdcoabOS0
import Derived.Test.YtbebfgfpdcdcoabOPenCerts
import Derived.Test.YtbebfgfpdcdcoabOSameVotes
import Derived.Deep.QuietTactic
import Derived.BigQuiet
import Derived.StillTailTactics
import Derived.IntWalk
import Derived.Deep.RegionLaw
import Derived.Maps.AppendAt
import Derived.Laws.OwnMore
import Derived.Lib.SliceRun
namespace Go.Proofs.Ytbebfgfpdcdcoab
open Go.RowKit

/-- What a client seals: the request without its seal. -/
def Rq.bare (r : Rq) : Rq := { r with sg := 0 }
theorem own_down {w : World} {b b' n s : Nat} {e : TypeId} {v : Value} {xs : List Value} (h : w.ownsRow b e s v n xs) (hb : b' ≤ b) : w.ownsRow b' e s v n xs := by
  refine ⟨h.1, ?_⟩
  rcases h.2 with h2 | ⟨g, cap, cur, hv, hg, r⟩
  · exact Or.inl h2
  · exact Or.inr ⟨g, cap, cur, hv, Nat.le_trans hb hg, r⟩
/-- From a later world back. -/
theorem BytesPost.back {ts : List Tok} {w w1 w' : World} {e : Ending} (h : BytesPost ts w1 e w') (hb : Below w.heap.size w w1) : BytesPost ts w e w' := by
  obtain ⟨h1, h2⟩ := h
  refine ⟨hb.trans (h1.mono hb.size), ?_⟩
  rcases h2 with ⟨bs, A, c, k1, k2, k3⟩ | h2
  · exact Or.inl ⟨bs, A, c, k1, k2, own_down k3 hb.size⟩
  · exact Or.inr h2
theorem key_len (r : Rq) : r.key.length = 6 := rfl
theorem key_cells {w : World} {g t : Nat} {r : Rq} (h : Blk w g t #[.int .i64 r.cl, .int .i64 r.tm, .int .i64 r.kd, .int .i64 r.ky, .int .i64 r.vl, .int .i64 r.sg]) {i : Nat} {x : Int} {l : List Int} (hd : r.key.drop i = x :: l) : w.cell? ⟨g, i, none⟩ = some (.int .i64 x) := by
  have h1 : r.key[i]? = some x := by
    have : (r.key.drop i)[0]? = some x := by rw [hd]; rfl
    rwa [List.getElem?_drop, Nat.add_zero] at this
  rw [h.cell i]
  have : (#[Value.int .i64 r.cl, .int .i64 r.tm, .int .i64 r.kd, .int .i64 r.ky, .int .i64 r.vl, .int .i64 r.sg] : Array Value) = (r.key.map (Value.int .i64)).toArray := rfl
  rw [this]
  simp [h1]
theorem cmpL_lt {x y : Int} {l m : List Int} (h : x < y) : cmpL (x :: l) (y :: m) = -1 := by unfold cmpL; rw [if_pos h]
theorem cmpL_gt {x y : Int} {l m : List Int} (h : y < x) : cmpL (x :: l) (y :: m) = 1 := by unfold cmpL; rw [if_neg (by omega), if_pos h]
theorem cmpL_eq {x : Int} {l m : List Int} : cmpL (x :: l) (x :: m) = cmpL l m := by
  show (if x < x then (-1 : Int) else if x < x then 1 else cmpL l m) = _
  rw [if_neg (by omega), if_neg (by omega)]
theorem drop_cons {α : Type} {l : List α} {i : Nat} (h : i < l.length) : ∃ x, l.drop i = x :: l.drop (i + 1) := ⟨l[i], List.drop_eq_getElem_cons h⟩
end Go.Proofs.Ytbebfgfpdcdcoab
/- The contracts of the document's Same, Has, Rises at requests. -/
namespace Go.Proofs.Ytbebfgfpdcdcoab
open Go.RowKit

theorem eql_req {x y : Rq} {r : Bool} (h : decide (x = y) = r) (w : World) : (binOp .eql 33 (.agg #[.int .i64 x.cl, .int .i64 x.tm, .int .i64 x.kd, .int .i64 x.ky, .int .i64 x.vl, .int .i64 x.sg]) (.agg #[.int .i64 y.cl, .int .i64 y.tm, .int .i64 y.kd, .int .i64 y.ky, .int .i64 y.vl, .int .i64 y.sg])).run Try.prog w = .ok (.bool r) w := by
  rw [run_eql_struct, equal_req x y 9997 w, ← h]
  rfl
def hasB (l : List Rq) (r : Rq) : Bool := decide (r ∈ l)
theorem has_yes {l : List Rq} {r : Rq} {k : Nat} (h : k < l.length) (e : l[k] = r) : hasB l r = true := decide_eq_true (e ▸ List.getElem_mem h)
theorem has_next {l : List Rq} {r : Rq} {k : Nat} (h : k < l.length) (e : l[k] ≠ r) (hn : r ∉ l.take k) : r ∉ l.take (k + 1) := by
  rw [List.take_succ_eq_append_getElem h]
  intro hm
  rcases List.mem_append.1 hm with hm | hm
  · exact hn hm
  · exact e (List.mem_singleton.1 hm).symm
theorem has_no {l : List Rq} {r : Rq} {k : Nat} (h : l.length ≤ k) (hn : r ∉ l.take k) : hasB l r = false := by
  rw [List.take_of_length_le h] at hn
  exact decide_eq_false hn
structure RiR (w : World) (zs : List Rq) (k : Nat) (wr : World) : Prop where
  low : Below w.heap.size w wr
  is : risesR zs = risesR (zs.drop (k - 1))
end Go.Proofs.Ytbebfgfpdcdcoab
/- The contract of the document's Order. -/
namespace Go.Proofs.Ytbebfgfpdcdcoab
open Go.RowKit

theorem info_req : (Try.prog.info? 33).map (fun i => (i.zero, i.size, i.bytes)) = some (some (.agg #[.int .i64 0, .int .i64 0, .int .i64 0, .int .i64 0, .int .i64 0, .int .i64 0]), 6, 48) := by kernel_rfl
theorem reqCells_one (l : List Rq) : ∀ u ∈ reqCells l, u.oneCell' = true := by
  intro u hu
  obtain ⟨v, _, hv⟩ := List.mem_flatMap.1 hu
  simp [Rq.cells] at hv
  rcases hv with rfl | rfl | rfl | rfl | rfl | rfl <;> rfl
theorem reqCells_app (l m : List Rq) : reqCells (l ++ m) = reqCells l ++ reqCells m := by simp [reqCells]
/-- append of any slice (nil too) to a row of the call's own, elements of some cells each. -/
theorem run_apps {P : Program} {w : World} (t ty : TypeId) (base : Nat) (e : TypeId) (i : TypeInfo) (z : Value) (size bytes : Nat) (ht : P.underlying t = some (.slice e)) (hi : P.info? e = some i) (hz : i.zero = some z)
    (hsize : i.size = size) (hby : i.bytes = bytes) (hzs : z.cells.size = size) (hs0 : 0 < size)
    (v : Value) (n : Nat) (xs : List Value) (hown : w.ownsRow base e size v n xs)
    (B : Nat) (A : Option Addr) (m c : Nat) (news : List Value) (hl : news.length = m * size) (hh : Has w B A news) (hn : A = none → c = 0) (h1 : ∀ u ∈ news, u.oneCell' = true)
    (h63 : n + m ≤ maxLen) (hbytes : (n + m) * bytes ≤ 140737488355328) (hbase : base ≤ w.heap.size) :
    ∃ v' w', (Builtin.append_ #[t, t] ty #[v, .slice A m c]).run P w = .ok v' w' ∧ w'.ownsRow base e size v' (n + m) (xs ++ news) ∧ w.grownBy w' v.ownBlock ∧ (v'.ownBlock = v.ownBlock ∨ v'.ownBlock = some w.heap.size) := by
  cases A with
  | none =>
    have hm : news = [] := by
      cases news with
      | nil => rfl
      | cons u r =>
        obtain ⟨_, hA, _⟩ := hh 0 u rfl
        cases hA
    subst hm
    obtain rfl : m = 0 := by
      have : m * size = 0 := by simpa using hl.symm
      rcases Nat.mul_eq_zero.1 this with h | h <;> omega
    obtain rfl := hn rfl
    exact ⟨v, w, run_append_owned_none (P := P) (w := w) base t ty e i size ht hi v n xs hown, by simpa using hown, World.grownBy.refl w _, Or.inl rfl⟩
  | some ad =>
    obtain ⟨v', w', h2, h3, h4, _, h5⟩ := run_append_own_at (P := P) w base t ty e i z size bytes ht hi hz hsize hby hzs hs0 v n xs hown ad m c news hl (fun j u hu => by
      obtain ⟨_, hA, _, hc⟩ := hh j u hu
      cases hA
      exact hc) h1 h63 hbytes hbase
    exact ⟨v', w', h2, h3, h4, h5⟩
theorem step_apps {P : Program} {w : World} {ops : Array Oper} {o : Oper} {a : Act} {K : Act → World → Prop} {Q : Exit → Act → World → Prop} {E : Prop} (hgd : o.guard = none) (s x : Operand) (t : TypeId)
    (ho : o.op = .call { callee := .builtin .append, args := #[s, x], argTypes := #[t, t] })
    (base : Nat) (e : TypeId) (i : TypeInfo) (z : Value) (size bytes : Nat) (ht : P.underlying t = some (.slice e)) (hi : P.info? e = some i) (hz : i.zero = some z)
    (hsize : i.size = size) (hby : i.bytes = bytes) (hzs : z.cells.size = size) (hs0 : 0 < size)
    (v : Value) (n : Nat) (xs : List Value) (hs : a.eval s = v) (hown : w.ownsRow base e size v n xs)
    (B : Nat) (A : Option Addr) (m c : Nat) (news : List Value) (hx : a.eval x = .slice A m c) (hl : news.length = m * size) (hh : Has w B A news) (hn : A = none → c = 0) (h1 : ∀ u ∈ news, u.oneCell' = true)
    (h63 : n + m ≤ maxLen) (hbytes : (n + m) * bytes ≤ 140737488355328) (hbase : base ≤ w.heap.size)
    (h : ∀ v' w', w'.ownsRow base e size v' (n + m) (xs ++ news) → w.grownBy w' v.ownBlock → (v'.ownBlock = v.ownBlock ∨ v'.ownBlock = some w.heap.size) → K (a.put o.dst v') w') :
    if Region.wanted o (yielded ops a.tmps) = true then Oper.wp P o a w K Q else E := by
  have hw : Region.wanted o (yielded ops a.tmps) = true := by simp [Region.wanted, hgd]
  rw [if_pos hw]
  obtain ⟨v', w', hr, h2, h3, h4⟩ := run_apps (P := P) (w := w) t o.type base e i z size bytes ht hi hz hsize hby hzs hs0 v n xs hown B A m c news hl hh hn h1 h63 hbytes hbase
  unfold Oper.wp execOp
  simp only [ho, resolve, invoke, builtin, Sem.run_bind, Sem.run_pure, Result.andThen_ok, List.map_toArray, List.map_cons, List.map_nil, hs, hx, hr]
  exact h v' w' h2 h3 h4

theorem wpList_apps {P : Program} {w : World} {ops : Array Oper} {rest : List Oper} {o : Oper} {a : Act} {Q : Exit → Act → World → Prop} (hgd : o.guard = none) (s x : Operand) (t : TypeId)
    (ho : o.op = .call { callee := .builtin .append, args := #[s, x], argTypes := #[t, t] })
    (base : Nat) (e : TypeId) (i : TypeInfo) (z : Value) (size bytes : Nat) (ht : P.underlying t = some (.slice e)) (hi : P.info? e = some i) (hz : i.zero = some z)
    (hsize : i.size = size) (hby : i.bytes = bytes) (hzs : z.cells.size = size) (hs0 : 0 < size)
    (v : Value) (n : Nat) (xs : List Value) (hs : a.eval s = v) (hown : w.ownsRow base e size v n xs)
    (B : Nat) (A : Option Addr) (m c : Nat) (news : List Value) (hx : a.eval x = .slice A m c) (hl : news.length = m * size) (hh : Has w B A news) (hn : A = none → c = 0) (h1 : ∀ u ∈ news, u.oneCell' = true)
    (h63 : n + m ≤ maxLen) (hbytes : (n + m) * bytes ≤ 140737488355328) (hbase : base ≤ w.heap.size)
    (h : ∀ v' w', w'.ownsRow base e size v' (n + m) (xs ++ news) → w.grownBy w' v.ownBlock → (v'.ownBlock = v.ownBlock ∨ v'.ownBlock = some w.heap.size) → wpList P ops Q rest (a.put o.dst v') w') : wpList P ops Q (o :: rest) a w := by
  refine wpList_plain hgd fun K hK => ?_
  obtain ⟨v', w', hr, h2, h3, h4⟩ := run_apps (P := P) (w := w) t o.type base e i z size bytes ht hi hz hsize hby hzs hs0 v n xs hown B A m c news hl hh hn h1 h63 hbytes hbase
  unfold Oper.wp
  simp [execOp, ho, resolve, invoke, builtin, hs, hx, hr, Result.andThen]
  exact hK _ _ (h v' w' h2 h3 h4)

structure OrdSt (w : World) (zs : List Rq) (i : Nat) (out : List Rq) (v : Value) (wr : World) : Prop where
  own : wr.ownsRow w.heap.size 33 6 v out.length (reqCells out)
  low : Below w.heap.size w wr
  is : orderS (zs.take i) = out
structure PlSt (w : World) (out : List Rq) (r : Rq) (v : Value) (k : Nat) (wr : World) : Prop where
  own : wr.ownsRow w.heap.size 33 6 v out.length (reqCells out)
  low : Below w.heap.size w wr
  is : place r out out.length = place r out k
theorem order_next {zs out : List Rq} {i : Nat} {r : Rq} (h : zs[i]? = some r) (ho : orderS (zs.take i) = out) : orderS (zs.take (i + 1)) = insS out r := by
  rw [List.take_add_one, h, ← ho]
  exact orderS_snoc _ _
theorem ins_had {out : List Rq} {r : Rq} (h : hasB out r = true) : insS out r = out := if_pos (of_decide_eq_true h)
theorem ins_new {out : List Rq} {r : Rq} (h : hasB out r = false) : insS out r = putS r out (place r out out.length) := if_neg (of_decide_eq_false h)
theorem place_stop {r x : Rq} {out : List Rq} {k : Nat} (h : out[k]? = some x) (hc : ¬ cmpR r x < 0) : place r out (k + 1) = k + 1 := by
  unfold place; rw [h]; exact if_neg hc
theorem place_down {r x : Rq} {out : List Rq} {k : Nat} (h : out[k]? = some x) (hc : cmpR r x < 0) : place r out (k + 1) = place r out k := by
  conv => lhs; unfold place
  rw [h]; exact if_pos hc

/-- Where a slice's rest lies. -/
def tailA (A : Option Addr) (c k : Nat) : Option Addr := if c = k then A else A.map fun x => x.add (k * 6)
set_option maxRecDepth 100000 in
theorem slice_head {w : World} (A : Option Addr) {n c k : Nat} (h : k ≤ c) : (Instr.slice 24 (.slice A n c) none (some (.int .i64 k)) none).run Try.prog w = .ok (.slice A k c) w := by
  rw [run_slice_h w 24 A n c Try.underlying24 .i64 k (by omega) (by omega)]
  have : (sizeOf (Try.prog.elem 24)).run Try.prog w = .ok 6 w := by kernel_rfl
  rw [this]
  show Result.ok (sliced A 0 (k : Int).toNat c 6) w = _
  unfold sliced
  cases A with
  | none => simp
  | some a => simp [Addr.add]
set_option maxRecDepth 100000 in
theorem slice_tail {w : World} (A : Option Addr) {n c k : Nat} (h : k ≤ n) : (Instr.slice 24 (.slice A n c) (some (.int .i64 k)) none none).run Try.prog w = .ok (.slice (tailA A c k) (n - k) (c - k)) w := by
  rw [run_slice_l w 24 A n c Try.underlying24 .i64 k (by omega) (by omega)]
  have : (sizeOf (Try.prog.elem 24)).run Try.prog w = .ok 6 w := by kernel_rfl
  rw [this]
  show Result.ok (sliced A (k : Int).toNat n c 6) w = _
  unfold sliced tailA
  simp
theorem reqCells_drop (l : List Rq) (k : Nat) : reqCells (l.drop k) = (reqCells l).drop (k * 6) := by
  induction k generalizing l with
  | zero => simp
  | succ k ih =>
    cases l with
    | nil => simp [reqCells]
    | cons x l =>
      rw [List.drop_succ_cons, ih]
      show (reqCells l).drop (k * 6) = (Rq.cells x ++ reqCells l).drop ((k + 1) * 6)
      have h6 : (Rq.cells x).length = 6 := rfl
      rw [show (k + 1) * 6 = (Rq.cells x).length + k * 6 by rw [h6]; omega, ← List.drop_drop, List.drop_left]
theorem reqCells_take (l : List Rq) (k : Nat) : reqCells (l.take k) = (reqCells l).take (k * 6) := by
  have h : reqCells (l.take k) ++ reqCells (l.drop k) = (reqCells l).take (k * 6) ++ (reqCells l).drop (k * 6) := by
    rw [← reqCells_app, List.take_append_drop, List.take_append_drop]
  rw [reqCells_drop] at h
  exact List.append_cancel_right h
theorem has_tail {w : World} {B c k : Nat} {A : Option Addr} {l : List Rq} (h : Has w B A (reqCells l)) (hc : l.length ≤ c) (hk : k ≤ l.length) : Has w B (tailA A c k) (reqCells (l.drop k)) := fun j u hj => by
  unfold tailA
  by_cases e : c = k
  · rw [List.drop_eq_nil_of_le (by omega)] at hj
    simp [reqCells] at hj
  · rw [if_neg e]
    rw [reqCells_drop, List.getElem?_drop] at hj
    obtain ⟨ad, rfl, hb, hcell⟩ := h _ u hj
    exact ⟨ad.add (k * 6), rfl, by rw [addr_block]; exact hb, by rw [addr_add]; exact hcell⟩
theorem tail_none {A : Option Addr} {c k : Nat} (h : A = none → c = 0) (e : tailA A c k = none) : c - k = 0 := by
  unfold tailA at e
  cases A with
  | none => rw [h rfl]; omega
  | some a =>
    split at e
    · cases e
    · cases e
theorem own_none1 {w : World} {base n c s : Nat} {e : TypeId} {A : Option Addr} {xs : List Value} (h : w.ownsRow base e s (.slice A n c) n xs) : A = none → c = 0 := by
  intro hA
  rcases h.2 with ⟨h2, _⟩ | ⟨g, cap, cur, hv, _⟩
  · injection h2
  · subst hA
    injection hv with h3
    cases h3
theorem own_prefix {w : World} {base n c k s : Nat} {e : TypeId} {A : Option Addr} {xs : List Value} (h : w.ownsRow base e s (.slice A n c) n xs) (hk : k ≤ n) : w.ownsRow base e s (.slice A k c) k (xs.take (k * s)) := by
  have hks : k * s ≤ n * s := Nat.mul_le_mul_right s hk
  refine ⟨by rw [List.length_take, h.1]; omega, ?_⟩
  rcases h.2 with ⟨h2, h3⟩ | ⟨g, cap, cur, hv, hg, hb, hc, hm, hz, ht⟩
  · injection h2 with a1 a2 a3
    subst a1 a3
    exact Or.inl ⟨by rw [show k = 0 by omega], by omega⟩
  · injection hv with a1 a2 a3
    subst a1 a3
    exact Or.inr ⟨g, c, cur, rfl, hg, hb, by omega, hm, hz, by rw [← ht, List.take_take, Nat.min_eq_left hks]⟩
theorem own_box {w : World} {r : Rq} : (w.alloc (.cells #[.int .i64 r.cl, .int .i64 r.tm, .int .i64 r.kd, .int .i64 r.ky, .int .i64 r.vl, .int .i64 r.sg] 33)).ownsRow w.heap.size 33 6 (.slice (some ⟨w.heap.size, 0, none⟩) 1 1) 1 (Rq.cells r) :=
  World.ownsRow_lit w #[.int .i64 r.cl, .int .i64 r.tm, .int .i64 r.kd, .int .i64 r.ky, .int .i64 r.vl, .int .i64 r.sg] 1 (Nat.le_refl _) (by unfold maxLen; omega) (by rfl)
theorem putS_len {r : Rq} {out : List Rq} {k : Nat} (h : k ≤ out.length) : (putS r out k).length = k + (1 + (out.length - k)) := by
  unfold putS; rw [List.length_append, List.length_cons, List.length_take, List.length_drop]; omega
theorem putS_cells (r : Rq) (out : List Rq) (k : Nat) : reqCells (putS r out k) = (reqCells out).take (k * 6) ++ (Rq.cells r ++ reqCells (out.drop k)) := by
  unfold putS
  rw [reqCells_app, reqCells_take]
  rfl
/-- What the last statement of a round leaves. -/
theorem ord_put {w w3 w4 w5 : World} {zs out : List Rq} {i k n2 : Nat} {r : Rq} {A Ac : Option Addr} {cv cc : Nat} (hx : zs[i]? = some r) (hoi : orderS (zs.take i) = out) (hi : insS out r = putS r out k) (hk : k ≤ out.length)
    (hlow : Below w.heap.size w w3) (hg4 : ((w3.drew).alloc (.cells #[.int .i64 r.cl, .int .i64 r.tm, .int .i64 r.kd, .int .i64 r.ky, .int .i64 r.vl, .int .i64 r.sg] 33)).grownBy w4 (some w3.heap.size))
    (hop : w4.ownsRow w.heap.size 33 6 (.slice A k cv) k ((reqCells out).take (k * 6))) (hg5 : w4.grownBy w5 (Value.slice A k cv).ownBlock)
    (ho5 : w5.ownsRow w.heap.size 33 6 (.slice Ac n2 cc) (k + (1 + (out.length - k))) ((reqCells out).take (k * 6) ++ (Rq.cells r ++ reqCells (out.drop k)))) : OrdSt w zs (i + 1) (putS r out k) (.slice Ac n2 cc) w5 := by
  refine ⟨by rw [putS_len hk, putS_cells]; exact ho5, ?_, by rw [order_next hx hoi, hi]⟩
  have h1 : Below w.heap.size w w3.drew := hlow.trans ⟨rfl, rfl, rfl, Nat.le_refl _, fun _ _ => rfl⟩
  have h2 := h1.alloc h1.size (.cells #[.int .i64 r.cl, .int .i64 r.tm, .int .i64 r.kd, .int .i64 r.ky, .int .i64 r.vl, .int .i64 r.sg] 33)
  have h3 : Below w.heap.size w w4 := h2.grown hg4 h2.size (fun k hk => by cases hk; exact hlow.size)
  exact h3.grown hg5 h3.size (fun k hk => (hop.lt k hk).1)
end Go.Proofs.Ytbebfgfpdcdcoab
/- The contract of slices.Clone at requests. -/
namespace Go.Proofs.Ytbebfgfpdcdcoab
open Go.RowKit

set_option maxHeartbeats 400000 in
set_option maxRecDepth 100000 in
theorem mq_clone {A : Option Addr} {c n B : Nat} {zs : List Rq} {w : World} (h1 : Has w B A (reqCells zs)) (hn : zs.length = n) (hm : n ≤ 1000000) :
    Calls Try.prog 35 #[.slice A n c] w fun e w' => ∃ v, e = .returned v ∧ w'.ownsRow w.heap.size 33 6 v n (reqCells zs) ∧ Below w.heap.size w w' := by
  have hq := fun (w : World) => Lib.run_eql_slice_nil w 24 33 A n c 0 0 Try.underlying24
  cases A with
  | none =>
    have hz : zs = [] := by
      cases zs with
      | nil => rfl
      | cons z r =>
        obtain ⟨_, hA, _⟩ := h1 0 _ (show (reqCells (z :: r))[0]? = some (.int .i64 z.cl) from rfl)
        cases hA
    subst hz
    have hn0 : n = 0 := by simpa using hn.symm
    subst hn0
    go_enter Try.func35, Try.ntmps35
    go_wp2
    go_ret
    exact ⟨_, rfl, World.ownsRow_nil _ _ _ _, Below.refl _ _⟩
  | some ad =>
    obtain ⟨i0, hi0, hx0, hx1, hx2⟩ := info_parts info_req
    have hL : (reqCells zs).length = n * 6 := by rw [reqCells_len, hn]
    have h6 := reqCells_one zs
    have hh := h1.tight.below ((Below.refl _ _).alloc (Nat.le_refl _) (.cells #[] 33)) (Nat.le_refl _)
    have ho := World.ownsRow_made (e := 33) (size := 6) w #[] 0 (Nat.le_refl _) (by unfold maxLen; omega) (by simp)
    have HB := Lib.hid (show Below w.heap.size w (w.alloc (.cells #[] 33)) from (Below.refl _ _).alloc (Nat.le_refl _) _)
    have HO := Lib.hid ho
    have HH := Lib.hid hh
    have H6 := Lib.hid h6
    have HLn := Lib.hid hL
    have hm1 := Lib.hid (show 0 + n ≤ maxLen by unfold maxLen; omega)
    have hm2 := Lib.hid (show (0 + n) * 48 ≤ 140737488355328 by omega)
    clear ho hh h6 hL h1
    go_enter Try.func35, Try.ntmps35
    go_wp2_with (at_builtin; refine wpList_apps rfl _ _ 24 rfl w.heap.size 33 i0 _ 6 48 Try.underlying24 hi0 hx0 hx1 hx2 rfl (by decide) _ 0 [] rfl HO.out _ (some ad) n c (reqCells zs) rfl HLn.out HH.out (fun e => by cases e) H6.out hm1.out hm2.out HB.out.size ?_)
    intro v w1 ho hg _
    have HR := Lib.hid ho
    have HG := Lib.hid (HB.out.grown hg HB.out.size (fun k hk => by cases hk; exact Nat.le_refl _))
    clear ho hg
    go_wp2
    go_ret
    exact ⟨v, rfl, HR.out, HG.out⟩
end Go.Proofs.Ytbebfgfpdcdcoab
