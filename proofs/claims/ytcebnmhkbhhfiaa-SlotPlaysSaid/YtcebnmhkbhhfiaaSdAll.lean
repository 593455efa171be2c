/- The document's own slot, its calls; the law's right, batch, and do but for votes of nodes. -/
import Derived.Test.YtcebnmhkbhhfiaaSlots
import Derived.Test.YtcebnmhkbhhfiaaCopyReqs
import Derived.Test.YtcebnmhkbhhfiaaActs14
namespace Go.Proofs.Ytcebnmhkbhhfiaa

/-- A vote that was counted. -/
structure Dv where
  nd : Int
  sg : Int
  bt : List Rq
def dvs : Nat → List Vo → List Dv
  | _, [] => []
  | k, x :: L => if x.ca = true then ⟨(k : Int), x.sg, x.bt⟩ :: dvs (k + 1) L else dvs (k + 1) L
theorem dvs_cons (k : Nat) (x : Vo) (L : List Vo) : dvs k (x :: L) = if x.ca = true then ⟨(k : Int), x.sg, x.bt⟩ :: dvs (k + 1) L else dvs (k + 1) L := rfl
/-- The votes for a batch. -/
def forD (D : List Dv) (b : List Rq) : List Vt := (D.filter fun x => decide (x.bt = b)).map fun x => ⟨x.nd, x.sg⟩
theorem forD_cons (x : Dv) (D : List Dv) (b : List Rq) : forD (x :: D) b = if x.bt = b then ⟨x.nd, x.sg⟩ :: forD D b else forD D b := by
  unfold forD
  rw [List.filter_cons]
  by_cases h : x.bt = b
  · rw [if_pos h, if_pos (by simpa using h)]; rfl
  · rw [if_neg h, if_neg (by simpa using h)]
theorem forD_dvs : ∀ (L : List Vo) (k : Nat) (b : List Rq), forD (dvs k L) b = forL k L b
  | [], _, _ => rfl
  | x :: L, k, b => by
    have ih := forD_dvs L (k + 1) b
    rw [dvs_cons, forL_cons]
    by_cases h : x.ca = true
    · rw [if_pos h, forD_cons, ih]
      by_cases hb : x.bt = b
      · rw [if_pos hb, if_pos ⟨h, hb⟩]
      · rw [if_neg hb, if_neg (fun e => hb e.2)]
    · rw [if_neg h, if_neg (fun e => h e.1), ih]
theorem forD_next {D : List Dv} {k : Nat} {x : Dv} {b : List Rq} (h : D[k]? = some x) : forD (D.take (k + 1)) b = forD (D.take k) b ++ if x.bt = b then [⟨x.nd, x.sg⟩] else [] := by
  rw [List.take_add_one, h]
  unfold forD
  rw [List.filter_append, List.map_append]
  congr 1
  by_cases hb : x.bt = b
  · simp [hb]
  · simp [hb]
def decD (D : List Dv) (b : List Rq) (q : Nat) : Option (List Vt) := if q ≤ (forD D b).length then some ((forD D b).take q) else none
theorem decD_dvs (L : List Vo) (b : List Rq) (q : Nat) : decD (dvs 0 L) b q = decS L b q := by
  unfold decD decS
  rw [forD_dvs]
theorem decD_here {D : List Dv} {b : List Rq} {q k : Nat} (h : (forD (D.take k) b).length = q) : decD D b q = some (forD (D.take k) b) := by
  have hM : forD D b = forD (D.take k) b ++ forD (D.drop k) b := by
    unfold forD
    rw [← List.map_append, ← List.filter_append, List.take_append_drop]
  unfold decD
  rw [hM, if_pos (by rw [List.length_append]; omega), ← h, List.take_left']
  rfl
theorem decD_end {D : List Dv} {b : List Rq} {q k : Nat} (h : (forD (D.take k) b).length < q) (hk : D.length ≤ k) : decD D b q = none := by
  rw [List.take_of_length_le hk] at h
  exact if_neg (by omega)
/-- The batch that enough have committed. -/
def comD (q : Nat) (D : List Dv) : List Dv → Option (List Rq × List Vt)
  | [] => none
  | x :: M => match decD D x.bt q with
    | some v => some (x.bt, v)
    | none => comD q D M
theorem comD_take {q : Nat} {D M : List Dv} {k : Nat} {x : Dv} (h : M[k]? = some x) (hn : ∀ y ∈ M.take k, decD D y.bt q = none) {v : List Vt} (hx : decD D x.bt q = some v) : comD q D M = some (x.bt, v) := by
  induction k generalizing M with
  | zero =>
    cases M with
    | nil => cases h
    | cons y M =>
      obtain rfl : y = x := by simpa using h
      unfold comD
      rw [hx]
  | succ k ih =>
    cases M with
    | nil => cases h
    | cons y M =>
      unfold comD
      rw [hn y (by simp)]
      exact ih (by simpa using h) (fun z hz => hn z (by simp [hz]))
theorem comD_none {q : Nat} {D : List Dv} : ∀ {M : List Dv}, (∀ x ∈ M, decD D x.bt q = none) → comD q D M = none
  | [], _ => rfl
  | y :: M, h => by
    unfold comD
    rw [h y List.mem_cons_self]
    exact comD_none fun x hx => h x (List.mem_cons_of_mem _ hx)
theorem comD_end {q : Nat} {D M : List Dv} {k : Nat} (hn : ∀ y ∈ M.take k, decD D y.bt q = none) (hk : M.length ≤ k) : comD q D M = none := by
  rw [List.take_of_length_le hk] at hn
  exact comD_none hn
theorem comD_is {q : Nat} {D : List Dv} : ∀ {M : List Dv} {b : List Rq} {v : List Vt}, comD q D M = some (b, v) → decD D b q = some v
  | [], _, _, h => by cases h
  | x :: M, b, v, h => by
    unfold comD at h
    cases hd : decD D x.bt q with
    | some u =>
      rw [hd] at h
      injection h with h
      injection h with h1 h2
      subst h1 h2
      exact hd
    | none =>
      rw [hd] at h
      exact comD_is h
theorem comD_no {q : Nat} {D : List Dv} : ∀ {M : List Dv}, comD q D M = none → ∀ x ∈ M, decD D x.bt q = none
  | [], _, x, hx => by cases hx
  | y :: M, h, x, hx => by
    unfold comD at h
    cases hd : decD D y.bt q with
    | some u => rw [hd] at h; cases h
    | none =>
      rw [hd] at h
      rcases List.mem_cons.1 hx with rfl | hx
      · exact hd
      · exact comD_no h x hx
theorem forD_some : ∀ {D : List Dv} {b : List Rq}, forD D b ≠ [] → ∃ x ∈ D, x.bt = b
  | [], _, h => absurd rfl h
  | x :: D, b, h => by
    rw [forD_cons] at h
    by_cases h1 : x.bt = b
    · exact ⟨x, List.mem_cons_self, h1⟩
    · rw [if_neg h1] at h
      obtain ⟨y, hy, hb⟩ := forD_some h
      exact ⟨y, List.mem_cons_of_mem _ hy, hb⟩
/-- Both tell the same batch. -/
theorem comD_dvs {L : List Vo} {q : Nat} (h0 : 0 < q) (hq : L.length < 2 * q) : comD q (dvs 0 L) (dvs 0 L) = comS q L L := by
  cases hd : comD q (dvs 0 L) (dvs 0 L) with
  | some r =>
    obtain ⟨b, v⟩ := r
    have h1 := comD_is hd
    rw [decD_dvs] at h1
    exact (comS_of h0 hq h1).symm
  | none =>
    cases hs : comS q L L with
    | none => rfl
    | some r =>
      obtain ⟨b, v⟩ := r
      have h1 := comS_is hs
      rw [← decD_dvs] at h1
      obtain ⟨x, hx, hb⟩ := forD_some (D := dvs 0 L) (b := b) (fun e => by
        unfold decD at h1
        rw [e] at h1
        split at h1
        · rename_i h; simp at h; omega
        · cases h1)
      have := comD_no hd x hx
      rw [hb, h1] at this
      cases this
/-! ### a vote more -/
theorem dvs_app : ∀ (L M : List Vo) (k : Nat), dvs k (L ++ M) = dvs k L ++ dvs (k + L.length) M
  | [], M, k => by simp [dvs]
  | x :: L, M, k => by
    have ih := dvs_app L M (k + 1)
    rw [List.cons_append, dvs_cons, dvs_cons, ih, show k + (x :: L).length = k + 1 + L.length by simp; omega]
    split <;> rfl
theorem dvs_len : ∀ (L : List Vo) (k : Nat), (dvs k L).length ≤ L.length
  | [], _ => Nat.le_refl _
  | x :: L, k => by
    have ih := dvs_len L (k + 1)
    rw [dvs_cons]
    split <;> simp <;> omega
theorem dvs_nd : ∀ (L : List Vo) (k : Nat), ∀ x ∈ dvs k L, (k : Int) ≤ x.nd ∧ x.nd < (k : Int) + L.length
  | [], _, x, hx => by cases hx
  | y :: L, k, x, hx => by
    have ih := dvs_nd L (k + 1)
    rw [dvs_cons] at hx
    split at hx
    · rcases List.mem_cons.1 hx with rfl | hx
      · simp; omega
      · have := ih x hx; simp; omega
    · have := ih x hx; simp; omega
/-- What lies below a node, and what does not. -/
theorem dvs_split (L : List Vo) {k : Nat} (hk : k ≤ L.length) : dvs 0 L = dvs 0 (L.take k) ++ dvs k (L.drop k) ∧ (∀ x ∈ dvs 0 (L.take k), x.nd < k) ∧ (∀ x ∈ dvs k (L.drop k), (k : Int) ≤ x.nd) := by
  refine ⟨?_, fun x hx => ?_, fun x hx => (dvs_nd _ _ x hx).1⟩
  · have := dvs_app (L.take k) (L.drop k) 0
    rw [List.take_append_drop, List.length_take, Nat.min_eq_left hk, Nat.zero_add] at this
    exact this
  · have := (dvs_nd _ _ x hx).2
    rw [List.length_take, Nat.min_eq_left hk] at this
    omega
/-- At which place a node's vote stands, or would. -/
def dPlace (L : List Vo) (k : Nat) : Nat := (dvs 0 (L.take k)).length
theorem dvs_new {L : List Vo} {k : Nat} {x y : Vo} (h : L[k]? = some x) (hx : x.ca = false) (hy : y.ca = true) : dvs 0 (L.set k y) = (dvs 0 L).take (dPlace L k) ++ [⟨(k : Int), y.sg, y.bt⟩] ++ (dvs 0 L).drop (dPlace L k) := by
  have hk := (List.getElem?_eq_some_iff.1 h).1
  obtain ⟨h1, _, _⟩ := dvs_split L (Nat.le_of_lt hk)
  unfold dPlace
  rw [h1, List.take_left', List.drop_left', List.set_eq_take_append_cons_drop, if_pos hk, dvs_app, List.length_take, Nat.min_eq_left (Nat.le_of_lt hk), Nat.zero_add, dvs_cons, if_pos hy]
  · have hd : L.drop k = x :: L.drop (k + 1) := by
      rw [List.drop_eq_getElem_cons hk]
      congr 1
      rw [List.getElem?_eq_getElem hk] at h
      exact Option.some.inj h
    rw [hd, dvs_cons, if_neg (by rw [hx]; simp)]
    simp
  all_goals rfl
/-- All behind the place are above the node. -/
theorem dvs_above {L : List Vo} {k : Nat} {x : Vo} (h : L[k]? = some x) (hx : x.ca = false) : ∀ y ∈ dvs k (L.drop k), (k : Int) < y.nd := by
  intro y hy
  have hk := (List.getElem?_eq_some_iff.1 h).1
  have hd : L.drop k = x :: L.drop (k + 1) := by
    rw [List.drop_eq_getElem_cons hk]
    congr 1
    rw [List.getElem?_eq_getElem hk] at h
    exact Option.some.inj h
  rw [hd, dvs_cons, if_neg (by rw [hx]; simp)] at hy
  have := (dvs_nd _ _ y hy).1
  omega
end Go.Proofs.Ytcebnmhkbhhfiaa
namespace Go.Proofs.Ytcebnmhkbhhfiaa
open Go.RowKit
set_option linter.unusedSimpArgs false

structure De where
  o : Dv
  A : Option Addr
  c : Nat
def De.cells (x : De) : List Value := [.int .i64 x.o.nd, .int .i64 x.o.sg, .slice x.A x.o.bt.length x.c]
def deCells (M : List De) : List Value := M.flatMap De.cells
theorem de_len (x : De) : x.cells.length = 3 := rfl
theorem deCells_len (M : List De) : (deCells M).length = M.length * 3 := flatMap_len de_len M
theorem deCells_app (M K : List De) : deCells (M ++ K) = deCells M ++ deCells K := by simp [deCells]
theorem deCells_one (M : List De) : ∀ u ∈ deCells M, u.oneCell' = true := by
  intro u hu
  obtain ⟨v, _, hv⟩ := List.mem_flatMap.1 hu
  simp [De.cells] at hv
  rcases hv with rfl | rfl | rfl <;> rfl
theorem info_de : (Try.prog.info? 83).map (fun i => (i.zero, i.size, i.bytes)) = some (some (.agg #[.int .i64 0, .int .i64 0, .slice none 0 0]), 3, 40) := by kernel_rfl
/-- A batch that lies somewhere, not in Y. -/
structure DBat (w : World) (Y : Nat → Prop) (A : Option Addr) (c : Nat) (l : List Rq) : Prop where
  has : Has w w.heap.size A (reqCells l)
  low : l.length ≤ 1000000
  nil : A = none → c = 0
  off : ∀ ad, A = some ad → l ≠ [] → ¬ Y ad.block
/-- A row of votes that were counted. -/
structure DRow (w : World) (Y : Nat → Prop) (v : Value) (D : List Dv) (M : List De) : Prop where
  is : M.map De.o = D
  own : w.ownsRow 0 83 3 v D.length (deCells M)
  all : ∀ x ∈ M, DBat w Y x.A x.c x.o.bt
  off : ∀ g, v.ownBlock = some g → ¬ Y g
section
variable {w w' : World} {Y Y' : Nat → Prop} {v : Value} {A : Option Addr} {c : Nat} {l : List Rq} {D : List Dv} {M : List De}
theorem req_ne {l : List Rq} (h : reqCells l ≠ []) : l ≠ [] := fun e => h (by rw [e]; rfl)
theorem DBat.kept (h : DBat w Y A c l) (ht : Turn Y w w') : DBat w' Y A c l :=
  ⟨(has_apart h.has ht (fun ad ha hl => h.off ad ha (req_ne hl))).more ht.size, h.low, h.nil, h.off⟩
theorem DBat.lt (h : DBat w Y A c l) {ad : Addr} (ha : A = some ad) (hl : l ≠ []) : ad.block < w.heap.size := by
  cases l with
  | nil => exact absurd rfl hl
  | cons x r =>
    obtain ⟨ad', e, hb, _⟩ := h.has 0 _ (show (reqCells (x :: r))[0]? = some (.int .i64 x.cl) from rfl)
    rw [ha] at e
    injection e with e
    rw [e]
    exact hb
theorem DBat.mono (h : DBat w Y A c l) (hy : ∀ k, k < w.heap.size → Y' k → Y k) : DBat w Y' A c l := ⟨h.has, h.low, h.nil, fun ad ha hl hk => h.off ad ha hl (hy _ (h.lt ha hl) hk)⟩
theorem DBat.below (h : DBat w Y A c l) (hb : Below w.heap.size w w') : DBat w' Y A c l := ⟨(h.has.below hb (Nat.le_refl _)).more hb.size, h.low, h.nil, h.off⟩
theorem DBat.none (w : World) (Y : Nat → Prop) : DBat w Y Option.none 0 [] := ⟨Has.nil _ _ _, Nat.zero_le _, fun _ => rfl, fun _ h => by cases h⟩
theorem DRow.len (h : DRow w Y v D M) : M.length = D.length := by rw [← h.is, List.length_map]
theorem DRow.kept (h : DRow w Y v D M) (ht : Turn Y w w') : DRow w' Y v D M := ⟨h.is, ht.own h.own h.off, fun x hx => (h.all x hx).kept ht, h.off⟩
theorem DRow.mono (h : DRow w Y v D M) (hy : ∀ k, k < w.heap.size → Y' k → Y k) : DRow w Y' v D M := ⟨h.is, h.own, fun x hx => (h.all x hx).mono hy, fun g hg hk => h.off g hg (hy g (h.own.lt g hg).2 hk)⟩
theorem DRow.below (h : DRow w Y v D M) (hb : Below w.heap.size w w') : DRow w' Y v D M := ⟨h.is, below_own h.own hb (Nat.le_refl _), fun x hx => (h.all x hx).below hb, h.off⟩
theorem DRow.nought (w : World) (Y : Nat → Prop) : DRow w Y (.slice Option.none 0 0) [] [] := ⟨rfl, World.ownsRow_nil _ _ _ _, (fun _ h => by cases h), (fun _ h => by cases h)⟩
/-- A vote's cells. -/
theorem DRow.cells (h : DRow w Y v D M) {k : Nat} (hk : k < D.length) : ∃ g c x, v = .slice (some ⟨g, 0, Option.none⟩) D.length c ∧ M[k]? = some x ∧ D[k]? = some x.o ∧ w.cell? ⟨g, k * 3, Option.none⟩ = some (.int .i64 x.o.nd) ∧ w.cell? ⟨g, k * 3 + 1, Option.none⟩ = some (.int .i64 x.o.sg) ∧ w.cell? ⟨g, k * 3 + 2, Option.none⟩ = some (.slice x.A x.o.bt.length x.c) := by
  have hk' : k < M.length := by rw [h.len]; exact hk
  obtain ⟨A, c, hv, _, _⟩ := own_slice h.own
  have hg := h.own
  rw [hv] at hg
  obtain ⟨ad, e, hb, hc⟩ := (has_rows hg).thing (f := De.cells) (s := 3) de_len (by omega) hk'
  obtain ⟨g, cap, hv2, _, _⟩ := hg.form (by omega)
  injection hv2 with hv2
  subst hv2
  cases e
  refine ⟨g, c, M[k], hv, List.getElem?_eq_getElem hk', ?_, ?_, ?_, ?_⟩
  · rw [← h.is, List.getElem?_map, List.getElem?_eq_getElem hk']; rfl
  · have := hc 0 _ rfl; rwa [addr_at] at this
  · have := hc 1 _ rfl; rwa [addr_at] at this
  · have := hc 2 _ rfl; rwa [addr_at] at this
end
/-- So far: the votes for the batch among the first k. -/
structure Fd (w : World) (D : List Dv) (b : List Rq) (k m : Nat) (u : Value) (wr : World) : Prop where
  own : wr.ownsRow w.heap.size 78 2 u m (voteCells (forD (D.take k) b))
  len : (forD (D.take k) b).length = m
  low : Below w.heap.size w wr
section
variable {w wr wz : World} {D : List Dv} {b : List Rq} {k m : Nat} {u u2 : Value} {x : Dv}
theorem Fd.below (h : Fd w D b k m u wr) (hb : Below wr.heap.size wr wz) : Fd w D b k m u wz := ⟨below_own h.own hb (Nat.le_refl _), h.len, h.low.trans (hb.mono h.low.size)⟩
theorem Fd.no (h : Fd w D b k m u wr) (hx : D[k]? = some x) (hn : x.bt ≠ b) : Fd w D b (k + 1) m u wr := by
  have e : forD (D.take (k + 1)) b = forD (D.take k) b := by rw [forD_next hx, if_neg hn, List.append_nil]
  exact ⟨by rw [e]; exact h.own, by rw [e]; exact h.len, h.low⟩
theorem Fd.yes (h : Fd w D b k m u wr) (hx : D[k]? = some x) (hn : x.bt = b) (ho : wz.ownsRow w.heap.size 78 2 u2 (m + 1) (voteCells (forD (D.take k) b) ++ voteCells [⟨x.nd, x.sg⟩])) (hb : Below w.heap.size w wz) : Fd w D b (k + 1) (m + 1) u2 wz := by
  have e : forD (D.take (k + 1)) b = forD (D.take k) b ++ [⟨x.nd, x.sg⟩] := by rw [forD_next hx, if_pos hn]
  exact ⟨by rw [e, voteCells_app]; exact ho, by rw [e, List.length_append, h.len]; rfl, hb⟩
theorem Fd.le (h : Fd w D b k m u wr) : m ≤ k := by
  have := h.len
  unfold forD at this
  rw [List.length_map] at this
  have h2 := List.length_filter_le (fun x : Dv => decide (x.bt = b)) (D.take k)
  rw [List.length_take] at h2
  omega
end
set_option maxRecDepth 100000 in
set_option maxHeartbeats 4000000 in
theorem rfor_any {w : World} {Y : Nat → Prop} {v : Value} {D : List Dv} {M : List De} (hr : DRow w Y v D M) (hD : D.length ≤ 13) {A : Option Addr} {n c B q : Nat} {b : List Rq} (hb : Has w B A (reqCells b)) (hn : b.length = n) (hq : q ≤ 9) :
    Calls Try.prog 34 #[v, .slice A n c, .int .i64 (q : Int)] w fun e w' => ∃ u, e = .returned (.tuple #[u, .bool (decD D b q).isSome]) ∧ w'.ownsRow w.heap.size 78 2 u (vtsOf (decD D b q)).length (voteCells (vtsOf (decD D b q))) ∧ Below w.heap.size w w' := by
  obtain ⟨i0, hi0, hx0, hx1, hx2⟩ := info_parts info_vote
  have HR := Lib.hid hr
  have HH := Lib.hid hb.tight
  have HN := Lib.hid hn
  obtain ⟨A0, c0, rfl, -, -⟩ := own_slice hr.own
  obtain ⟨n0, hn0⟩ : ∃ y, D.length = y := ⟨_, rfl⟩
  have HN0 := Lib.hid hn0
  rw [hn0] at hD ⊢
  clear hr hb hn hn0
  go_enter Try.func34, Try.ntmps34
  go_wp2_with fail
  go_loopw [8, 9] (fun y x wr => ∃ (k m : Nat), x = .int .i64 k ∧ k ≤ n0 ∧ m ≤ q ∧ m ≤ k ∧ Hid (Fd w D b k m y wr)) (fun _ x _ => n0 - (intOf x).toNat)
  case atStart => exact ⟨0, 0, rfl, Nat.zero_le _, Nat.zero_le _, Nat.le_refl _, ⟨World.ownsRow_nil _ _ _ _, rfl, Below.refl _ _⟩⟩
  case round =>
    obtain ⟨k, m, rfl, hk, hmq, hmk, HF⟩ := hrel
    obtain ⟨Au, cu, rfl, -, -⟩ := own_slice HF.out.own
    by_cases hlt : k < n0 ∧ m < q
    · obtain ⟨hlt1, hlt2⟩ := hlt
      have hkD : k < D.length := by rw [HN0.out]; exact hlt1
      obtain ⟨g, c', x, hv, hM, hx, d0, d1, d2⟩ := (HR.out.below HF.out.low).cells hkD
      injection hv with hA0 hn0' hc0
      subst hA0 hc0
      have HX := Lib.hid hx
      have HBt := Lib.hid ((HR.out.all x (List.mem_of_getElem? hM)).below HF.out.low)
      obtain ⟨nd, hnd⟩ : ∃ y, x.o.nd = y := ⟨_, rfl⟩
      obtain ⟨sg, hsg⟩ : ∃ y, x.o.sg = y := ⟨_, rfl⟩
      obtain ⟨nx, hnx⟩ : ∃ y, x.o.bt.length = y := ⟨_, rfl⟩
      rw [hnd] at d0
      rw [hsg] at d1
      rw [hnx] at d2
      have HNS := Lib.hid (And.intro hnd hsg)
      have HNx := Lib.hid hnx
      have hlt3 : (k : Int) < (n0 : Int) := by omega
      have hlt4 : (m : Int) < (q : Int) := by omega
      have hgl : g < wr.heap.size := block_lt d0
      have HSame := Lib.hid (show Calls Try.prog 71 #[.slice x.A nx x.c, .slice A n c] wr fun e w' => e = .returned (.bool (sameL x.o.bt b)) ∧ ∃ nq, w' = wr.drewN nq from by
        have h1 := HBt.out.has
        have h2 := (HH.out.below HF.out.low (Nat.le_refl _)).more HF.out.low.size
        have := rsame_any x.A A x.c c x.o.bt b wr.heap.size wr (by have := HBt.out.low; omega) h1 h2
        rw [HNx.out, HN.out] at this
        exact this)
      clear hM hx hkD hn0' hnd hsg hnx
      obtain ⟨r, hr⟩ : ∃ r, sameL x.o.bt b = r := ⟨_, rfl⟩
      have HR' := Lib.hid hr
      rw [hr] at HSame
      clear hr
      cases r with
      | false =>
        have HF9 := Lib.hid (HF.out.no HX.out (fun e => by have := HR'.out; rw [e, sameL_self'] at this; cases this))
        go_wp2_with fail
        refine HSame.out.mono ?_
        rintro e w9 ⟨rfl, nq, rfl⟩
        have HF10 := Lib.hid (HF9.out.below (wz := wr.drewN nq) ⟨rfl, rfl, rfl, Nat.le_refl _, fun _ _ => rfl⟩)
        go_wp2_with fail
        go_roundw
        case rel => exact ⟨k + 1, m, by go_num, by omega, by omega, by omega, HF10⟩
        case measure => simp [intOf]; omega
      | true =>
        have HXb := Lib.hid (sameL_true.1 HR'.out)
        go_wp2_with fail
        refine HSame.out.mono ?_
        rintro e w9 ⟨rfl, nq, rfl⟩
        have HF9 := Lib.hid (HF.out.below (wz := wr.drewN nq) ⟨rfl, rfl, rfl, Nat.le_refl _, fun _ _ => rfl⟩)
        have e0 : (wr.drewN nq).cell? ⟨g, k * 3, none⟩ = some (.int .i64 nd) := d0
        have e1 : (wr.drewN nq).cell? ⟨g, k * 3 + 1, none⟩ = some (.int .i64 sg) := d1
        have hgl2 : g < (wr.drewN nq).heap.size := hgl
        obtain ⟨wn, hwn⟩ : ∃ y, wr.drewN nq = y := ⟨_, rfl⟩
        rw [hwn] at HF9 e0 e1 hgl2 ⊢
        clear hwn d0 d1 d2 hgl HSame HBt HF
        have HB7 := Lib.hid (show Below wn.heap.size wn (wn.alloc (.cells #[.int .i64 nd, .int .i64 sg] 78)).drew from Below.trans ((Below.refl _ _).alloc (Nat.le_refl _) _) ⟨rfl, rfl, rfl, Nat.le_refl _, fun _ _ => rfl⟩)
        have HNw := Lib.hid (show Has (wn.alloc (.cells #[.int .i64 nd, .int .i64 sg] 78)).drew (wn.heap.size + 1) (some ⟨wn.heap.size, 0, none⟩) (voteCells [⟨nd, sg⟩]) from (Has.fresh wn #[.int .i64 nd, .int .i64 sg] 78).drew)
        have HOw := Lib.hid (below_own HF9.out.own HB7.out (Nat.le_refl _))
        have HOne := Lib.hid (voteCells_one [⟨nd, sg⟩])
        have HM1 := Lib.hid (show m + 1 ≤ maxLen by unfold maxLen; omega)
        have HM2 := Lib.hid (show (m + 1) * 16 ≤ 140737488355328 by omega)
        have HM3 := Lib.hid (show w.heap.size ≤ (wn.alloc (.cells #[.int .i64 nd, .int .i64 sg] 78)).drew.heap.size from Nat.le_trans HF9.out.low.size HB7.out.size)
        have HK := Lib.hid (fun (v6 : Value) (w6 : World) (ho : w6.ownsRow w.heap.size 78 2 v6 (m + 1) (voteCells (forD (D.take k) b) ++ voteCells [⟨nd, sg⟩])) (hg : (wn.alloc (.cells #[.int .i64 nd, .int .i64 sg] 78)).drew.grownBy w6 (Value.slice Au m cu).ownBlock) => show (w6.cell? ⟨g, k * 3, none⟩ = some (.int .i64 nd) ∧ w6.cell? ⟨g, k * 3 + 1, none⟩ = some (.int .i64 sg)) from by
          have hblk : w6.heap[g]? = wn.heap[g]? := by
            have h1 : (wn.alloc (.cells #[.int .i64 nd, .int .i64 sg] 78)).drew.heap[g]? = wn.heap[g]? := HB7.out.block g hgl2
            rw [← h1]
            refine hg.block g (Nat.lt_of_lt_of_le hgl2 HB7.out.size) (fun e => ?_)
            have hR2 := (HR.out.below HF9.out.low).own
            have hR3 := below_own hR2 HB7.out (Nat.le_refl _)
            rcases own_apart HOw.out hR3 (by decide) with h | h
            · rw [h] at e; cases e
            · exact h (e.symm.trans (by rfl))
          exact ⟨(World.cell?_of_block (a := ⟨g, k * 3, none⟩) hblk).trans e0, (World.cell?_of_block (a := ⟨g, k * 3 + 1, none⟩) hblk).trans e1⟩)
        have hq1 : wn.drew.cell? ⟨g, k * 3, none⟩ = some (.int .i64 nd) ∧ wn.drew.cell? ⟨g, k * 3 + 1, none⟩ = some (.int .i64 sg) := ⟨e0, e1⟩
        have hq0 : (wn.alloc (.cells #[.int .i64 nd, .int .i64 sg] 78)).drew.cell? ⟨g, k * 3, none⟩ = some (.int .i64 nd) ∧ (wn.alloc (.cells #[.int .i64 nd, .int .i64 sg] 78)).drew.cell? ⟨g, k * 3 + 1, none⟩ = some (.int .i64 sg) := ⟨(HB7.out.cell hgl2).trans e0, (HB7.out.cell hgl2).trans e1⟩
        clear e0 e1
        go_wp2_with fail
        go_region_held3 (fun w' => w'.cell? ⟨g, k * 3, none⟩ = some (.int .i64 nd) ∧ w'.cell? ⟨g, k * 3 + 1, none⟩ = some (.int .i64 sg)) (first | exact hq1 | exact hq0 | exact hq2 | go_keep)
          ((refine step_apps rfl (.tmp 29) (.tmp 41) 46 rfl w.heap.size 78 i0 (.agg #[.int .i64 0, .int .i64 0]) 2 16 Try.underlying46 hi0 hx0 hx1 hx2 rfl (by decide) (.slice Au m cu) _ _ rfl HOw.out _ (some ⟨wn.heap.size, 0, none⟩) 1 1 (voteCells [⟨nd, sg⟩]) rfl rfl HNw.out (fun h => nomatch h) HOne.out HM1.out HM2.out HM3.out ?_; intro vb w6 hob hgb hlb; obtain ⟨Ab, cb, rfl, _, _⟩ := own_slice hob; have hq2 := HK.out _ _ hob hgb))
        have HF10 := Lib.hid (HF9.out.yes HX.out HXb.out (by rw [HNS.out.1, HNS.out.2]; exact hob) ((HF9.out.low.trans (HB7.out.mono HF9.out.low.size)).grown hgb HM3.out (fun k hk => (HOw.out.lt k hk).1)))
        clear hob hgb hlb hq0 hq1 hq2 HK HOw HNw
        go_wp2_with fail
        go_roundw
        case rel => exact ⟨k + 1, m + 1, by go_num, by omega, by omega, by omega, HF10⟩
        case measure => simp [intOf]; omega
    · by_cases hm : m < q
      · obtain rfl : k = n0 := by omega
        have HE := Lib.hid (show decD D b q = none from decD_end (k := k) (by rw [HF.out.len]; exact hm) (by rw [HN0.out]; exact Nat.le_refl _))
        have h2 : (m : Int) < (q : Int) := by omega
        clear hlt
        go_wp2_with fail
        go_ret2
        refine ⟨.slice none 0 0, ?_, ?_, HF.out.low⟩
        · rw [HE.out]; rfl
        · rw [HE.out]; exact World.ownsRow_nil _ _ _ _
      · obtain rfl : q = m := by omega
        have HE := Lib.hid (show decD D b q = some (forD (D.take k) b) from decD_here HF.out.len)
        have HO := Lib.hid (show wr.ownsRow w.heap.size 78 2 (.slice Au q cu) (forD (D.take k) b).length (voteCells (forD (D.take k) b)) from by rw [HF.out.len]; exact HF.out.own)
        clear hlt
        by_cases hkn : k < n0
        · have h3 : (k : Int) < (n0 : Int) := by omega
          go_wp2_with fail
          go_ret2
          refine ⟨.slice Au q cu, ?_, ?_, HF.out.low⟩
          · rw [HE.out]; rfl
          · rw [HE.out]; exact HO.out
        · obtain rfl : k = n0 := by omega
          go_wp2_with fail
          go_ret2
          refine ⟨.slice Au q cu, ?_, ?_, HF.out.low⟩
          · rw [HE.out]; rfl
          · rw [HE.out]; exact HO.out
end Go.Proofs.Ytcebnmhkbhhfiaa
namespace Go.Proofs.Ytcebnmhkbhhfiaa
open Go.RowKit
set_option linter.unusedSimpArgs false

def tailD (A : Option Addr) (c k : Nat) : Option Addr := if c = k then A else A.map fun x => x.add (k * 3)
set_option maxRecDepth 100000 in
theorem dslice_head {w : World} (A : Option Addr) {n c k : Nat} (h : k ≤ c) : (Instr.slice 30 (.slice A n c) none (some (.int .i64 k)) none).run Try.prog w = .ok (.slice A k c) w := by
  rw [run_slice_h w 30 A n c Try.underlying30 .i64 k (by omega) (by omega)]
  have : (sizeOf (Try.prog.elem 30)).run Try.prog w = .ok 3 w := by kernel_rfl
  rw [this]
  show Result.ok (sliced A 0 (k : Int).toNat c 3) w = _
  unfold sliced
  cases A with
  | none => simp
  | some a => simp [Addr.add]
set_option maxRecDepth 100000 in
theorem dslice_tail {w : World} (A : Option Addr) {n c k : Nat} (h : k ≤ n) : (Instr.slice 30 (.slice A n c) (some (.int .i64 k)) none none).run Try.prog w = .ok (.slice (tailD A c k) (n - k) (c - k)) w := by
  rw [run_slice_l w 30 A n c Try.underlying30 .i64 k (by omega) (by omega)]
  have : (sizeOf (Try.prog.elem 30)).run Try.prog w = .ok 3 w := by kernel_rfl
  rw [this]
  show Result.ok (sliced A (k : Int).toNat n c 3) w = _
  unfold sliced tailD
  simp
theorem deCells_drop (l : List De) (k : Nat) : deCells (l.drop k) = (deCells l).drop (k * 3) := by
  induction k generalizing l with
  | zero => simp
  | succ k ih =>
    cases l with
    | nil => simp [deCells]
    | cons x l =>
      rw [List.drop_succ_cons, ih]
      show (deCells l).drop (k * 3) = (De.cells x ++ deCells l).drop ((k + 1) * 3)
      have h6 : (De.cells x).length = 3 := rfl
      rw [show (k + 1) * 3 = (De.cells x).length + k * 3 by rw [h6]; omega, ← List.drop_drop, List.drop_left]
theorem deCells_take (l : List De) (k : Nat) : deCells (l.take k) = (deCells l).take (k * 3) := by
  have h : deCells (l.take k) ++ deCells (l.drop k) = (deCells l).take (k * 3) ++ (deCells l).drop (k * 3) := by
    rw [← deCells_app, List.take_append_drop, List.take_append_drop]
  rw [deCells_drop] at h
  exact List.append_cancel_right h
theorem dhas_take {w : World} {B k : Nat} {A : Option Addr} {l : List De} (h : Has w B A (deCells l)) : Has w B A (deCells (l.take k)) := fun j u hj => by
  rw [deCells_take, List.getElem?_take] at hj
  split at hj
  · exact h j u hj
  · cases hj
theorem dhas_tail {w : World} {B c k : Nat} {A : Option Addr} {l : List De} (h : Has w B A (deCells l)) (hc : l.length ≤ c) : Has w B (tailD A c k) (deCells (l.drop k)) := fun j u hj => by
  unfold tailD
  by_cases e : c = k
  · rw [List.drop_eq_nil_of_le (by omega)] at hj
    simp [deCells] at hj
  · rw [if_neg e]
    rw [deCells_drop, List.getElem?_drop] at hj
    obtain ⟨ad, rfl, hb, hcell⟩ := h _ u hj
    exact ⟨ad.add (k * 3), rfl, by rw [addr_block]; exact hb, by rw [addr_add]; exact hcell⟩
theorem dtail_none {A : Option Addr} {c k : Nat} (h : A = none → c = 0) (e : tailD A c k = none) : c - k = 0 := by
  unfold tailD at e
  cases A with
  | none => rw [h rfl]; omega
  | some a =>
    split at e
    · cases e
    · cases e
theorem own_nil0 {w : World} {b n s c : Nat} {e : TypeId} {A : Option Addr} {xs : List Value} (h : w.ownsRow b e s (.slice A n c) n xs) (hA : A = none) : c = 0 := by
  subst hA
  rcases h.2 with ⟨h2, _⟩ | ⟨g, cap, cur, hv, _⟩
  · injection h2
  · injection hv with a
    cases a
theorem split_above {X Z : List Dv} {k : Int} {j : Nat} {x : Dv} (hZ : ∀ x ∈ Z, k < x.nd) (hx : (X ++ Z)[j]? = some x) (h : X.length ≤ j) : k < x.nd := by
  rw [List.getElem?_append_right h] at hx
  exact hZ _ (List.mem_of_getElem? hx)
theorem split_below {X Z : List Dv} {k : Int} {j : Nat} {x : Dv} (hX : ∀ x ∈ X, x.nd < k) (hx : (X ++ Z)[j]? = some x) (h : j < X.length) : x.nd < k := by
  rw [List.getElem?_append_left h] at hx
  exact hX _ (List.mem_of_getElem? hx)
section
variable {w : World} {Y : Nat → Prop} {v : Value} {X Z : List Dv} {M : List De} {A : Option Addr} {n c : Nat} {b : List Rq} {k sg : Int}
/-- The votes with one more among them. -/
theorem DRow.add (hr : DRow w Y v (X ++ Z) M) (hb : DBat w Y A c b) {w' : World} (hlow : Below w.heap.size w w') (hY : ∀ k, Y k → k < w.heap.size) {u : Value}
    (ho : w'.ownsRow w.heap.size 83 3 u ((X ++ [(⟨k, sg, b⟩ : Dv)] ++ Z).length) (deCells (M.take X.length ++ [(⟨⟨k, sg, b⟩, A, c⟩ : De)] ++ M.drop X.length))) : DRow w' Y u (X ++ [(⟨k, sg, b⟩ : Dv)] ++ Z) (M.take X.length ++ [(⟨⟨k, sg, b⟩, A, c⟩ : De)] ++ M.drop X.length) := by
  have h1 : (M.take X.length).map De.o = X := by rw [List.map_take, hr.is, List.take_left']; rfl
  have h2 : (M.drop X.length).map De.o = Z := by rw [List.map_drop, hr.is, List.drop_left']; rfl
  refine ⟨by rw [List.map_append, List.map_append, h1, h2]; rfl, own_to0 ho, fun x hx => ?_, fun g hg hy => by have := (ho.lt g hg).1; have := hY g hy; omega⟩
  rcases List.mem_append.1 hx with hx | hx
  · rcases List.mem_append.1 hx with hx | hx
    · exact (hr.all x (List.mem_of_mem_take hx)).below hlow
    · obtain rfl : x = (⟨⟨k, sg, b⟩, A, c⟩ : De) := by simpa using hx
      exact hb.below hlow
  · exact (hr.all x (List.mem_of_mem_drop hx)).below hlow
set_option maxRecDepth 100000 in
set_option maxHeartbeats 4000000 in
theorem radd_new (hr : DRow w Y v (X ++ Z) M) (hD : (X ++ Z).length ≤ 13) (hX : ∀ x ∈ X, x.nd < k) (hZ : ∀ x ∈ Z, k < x.nd) (hb : DBat w Y A c b) (hn : b.length = n) (hY : ∀ k, Y k → k < w.heap.size) :
    Calls Try.prog 30 #[v, .agg #[.int .i64 k, .int .i64 sg, .slice A n c]] w fun e w' => ∃ u M', e = .returned (.tuple #[u, .bool true]) ∧ DRow w' Y u (X ++ [(⟨k, sg, b⟩ : Dv)] ++ Z) M' ∧ Below w.heap.size w w' := by
  obtain ⟨i0, hi0, hx0, hx1, hx2⟩ := info_parts info_de
  have HR := Lib.hid hr
  have HB := Lib.hid hb
  have HXZ := Lib.hid (And.intro hX hZ)
  have HY := Lib.hid hY
  have HB0 := Lib.hid (show Below w.heap.size w (w.alloc (.cells #[.int .i64 k, .int .i64 sg, .slice A n c] 83)) from (Below.refl _ _).alloc (Nat.le_refl _) _)
  have HBx := Lib.hid (Blk.new w 83 #[.int .i64 k, .int .i64 sg, .slice A n c])
  obtain ⟨A0, c0, rfl, hle0, -⟩ := own_slice hr.own
  obtain ⟨n0, hn0⟩ : ∃ y, (X ++ Z).length = y := ⟨_, rfl⟩
  obtain ⟨p, hp⟩ : ∃ y, X.length = y := ⟨_, rfl⟩
  have HN := Lib.hid (And.intro hn (And.intro hn0 hp))
  have hpn : p ≤ n0 := by rw [← hp, ← hn0, List.length_append]; omega
  rw [hn0] at hD hle0 ⊢
  have HCell := Lib.hid (fun (j : Nat) (hj : j < n0) => hr.cells (k := j) (by rw [hn0]; exact hj))
  have HNil := Lib.hid (own_nil0 hr.own)
  rw [hn0] at HCell
  have hsl := fun (w : World) => dslice_head (w := w) A0 (n := n0) (c := c0) (k := p) (by omega)
  have htl := fun (w : World) => dslice_tail (w := w) A0 (n := n0) (c := c0) (k := p) hpn
  have HL0 := Lib.hid hle0
  clear hr hb hX hZ hY hn hn0 hp hle0
  go_enter Try.func30, Try.ntmps30
  obtain ⟨w1, hw1⟩ : ∃ w1, w.alloc (.cells #[.int .i64 k, .int .i64 sg, .slice A n c] 83) = w1 := ⟨_, rfl⟩
  obtain ⟨gv, hgv⟩ : ∃ y, w.heap.size = y := ⟨_, rfl⟩
  go_wp2_with fail
  have HW1 := Lib.hid hw1
  have HGv := Lib.hid hgv
  rw [hw1] at HB0 HBx
  rw [hgv] at HBx
  clear hw1 hgv
  go_loopw [6] (fun x wr => ∃ (i m : Nat), x = .int .i64 i ∧ i ≤ n0 ∧ p ≤ i ∧ wr = w1.drewN m) (fun x _ => (intOf x).toNat)
  case atStart => exact ⟨n0, 0, rfl, Nat.le_refl _, hpn, rfl⟩
  case round =>
    obtain ⟨i, m, rfl, hi, hpi, rfl⟩ := hrel
    have b00 : w1.cell? ⟨gv, 0, none⟩ = some (.int .i64 k) := HBx.out.cell 0
    have b0 := fun (m' : Nat) => (show ((w1.drewN m).drewN m').cell? ⟨gv, 0, none⟩ = some (.int .i64 k) from HBx.out.cell 0)
    by_cases hi0' : 0 < i
    · obtain ⟨j, hj⟩ : ∃ j, j + 1 = i := ⟨i - 1, by omega⟩
      have hjn : j < n0 := by omega
      obtain ⟨g, c', x, hv, hM, hx, d0, _, _⟩ := HCell.out j hjn
      injection hv with hA0 _ hc0
      subst hA0 hc0
      have hgl : g < w.heap.size := block_lt d0
      obtain ⟨nd, hnd⟩ : ∃ y, x.o.nd = y := ⟨_, rfl⟩
      rw [hnd] at d0
      have a00 : w1.cell? ⟨g, j * 3, none⟩ = some (.int .i64 nd) := (HB0.out.cell (p := ⟨g, j * 3, none⟩) hgl).trans d0
      have a0 := fun (m' : Nat) => (show ((w1.drewN m).drewN m').cell? ⟨g, j * 3, none⟩ = some (.int .i64 nd) from a00)
      have hji : (i : Int) - 1 = (j : Int) := by omega
      have HWj := Lib.hid (show IntKind.i64.wrap (j : Int) = (j : Int) from by rw [IntKind.wrap_i64]; omega)
      have hjl : (j : Int) < (n0 : Int) := by omega
      by_cases hpj : p < i
      · have hXj : X.length ≤ j := by have := HN.out.2.2; omega
        have hgt : k < nd := by rw [← hnd]; exact split_above HXZ.out.2 hx hXj
        clear hXj
        have h1 : decide (k ≤ nd) = true := decide_eq_true (by omega)
        have h2 : (nd == k) = false := by simp; omega
        clear hM hx d0 hnd hgt
        have hwj := HWj.out
        go_wp2_with fail
        have hii : decide (0 < i) = true := decide_eq_true hi0'
        go_quiet (fail)
        have a1 := fun (m' : Nat) => a0 (nq + m')
        have b1 := fun (m' : Nat) => b0 (nq + m')
        go_wp2_with fail
        go_quiet (fail)
        go_wp2_with fail
        go_roundw
        case rel => exact ⟨j, _, by first | go_num | (congr 1; omega), by omega, by omega, rfl⟩
        case measure => simp [intOf]; omega
      · obtain rfl : i = p := by omega
        have hXj : j < X.length := by have := HN.out.2.2; omega
        have hlt : nd < k := by rw [← hnd]; exact split_below HXZ.out.1 hx hXj
        clear hXj
        have h1 : decide (k ≤ nd) = false := decide_eq_false (by omega)
        clear hM hx d0 hnd hlt hpj
        have hwj := HWj.out
        go_wp2_with fail
        have hii : decide (0 < i) = true := decide_eq_true hi0'
        go_quiet (fail)
        clear a0 b0
        obtain ⟨wq, hwq⟩ : ∃ y, (w1.drewN m).drewN nq = y := ⟨_, rfl⟩
        have HQ := Lib.hid (show Below w.heap.size w wq ∧ Blk wq gv 83 #[.int .i64 k, .int .i64 sg, .slice A n c] from by
          rw [← hwq]
          exact ⟨HB0.out.trans ⟨rfl, rfl, rfl, Nat.le_refl _, fun _ _ => rfl⟩, HBx.out⟩)
        rw [hwq]
        clear hwq
        have hL1 : (deCells (M.take i)).length = i * 3 := by rw [deCells_len, List.length_take, HR.out.len, HN.out.2.1, Nat.min_eq_left hi]
        have HA := Lib.hid (show Has wq wq.heap.size (some ⟨g, 0, none⟩) (deCells M) ∧ M.length ≤ c0 ∧ ((some ⟨g, 0, none⟩ : Option Addr) = none → c0 = 0) from ⟨((has_rows HR.out.own).below HQ.out.1 (Nat.le_refl _)).more HQ.out.1.size, by rw [HR.out.len, HN.out.2.1]; exact HL0.out, HNil.out⟩)
        have HL1 := Lib.hid hL1
        have HO1 := Lib.hid (deCells_one (M.take i))
        have HT1 := Lib.hid (dhas_take (k := i) HA.out.1)
        have HM1 := Lib.hid (show 0 + i ≤ maxLen ∧ (0 + i) * 40 ≤ 140737488355328 ∧ w.heap.size ≤ wq.heap.size from ⟨by unfold maxLen; omega, by omega, HQ.out.1.size⟩)
        go_wp2_with (at_builtin; refine wpList_apps rfl _ _ 30 rfl w.heap.size 83 i0 _ 3 40 Try.underlying30 hi0 hx0 hx1 hx2 rfl (by decide) (.slice none 0 0) 0 [] rfl (World.ownsRow_nil _ _ _ _) wq.heap.size (some ⟨g, 0, none⟩) i c0 (deCells (M.take i)) rfl HL1.out HT1.out HNil.out HO1.out HM1.out.1 HM1.out.2.1 HM1.out.2.2 ?_)
        intro u1 wa ho1 hg1 _
        have hba := HQ.out.1.grown hg1 HM1.out.2.2 (fun k hk => by cases hk)
        have hbq : Below wq.heap.size wq wa := (Below.refl _ _).grown hg1 (Nat.le_refl _) (fun k hk => by cases hk)
        have hxa := HQ.out.2.below hbq HQ.out.2.lt
        have e0 := hxa.cell 0
        have e1 := hxa.cell 1
        have e2 := hxa.cell 2
        simp only [List.getElem?_toArray, List.getElem?_cons_zero, List.getElem?_cons_succ] at e0 e1 e2
        have ho1' : wa.ownsRow w.heap.size 83 3 u1 i (deCells (M.take i)) := by simpa using ho1
        have HOa := Lib.hid ho1'
        have HBa := Lib.hid hba
        have HAa := Lib.hid (HA.out.1.below hbq (Nat.le_refl _))
        clear ho1 hg1 hba hbq hxa
        obtain ⟨Aa, ca, rfl, -, -⟩ := own_slice ho1'
        clear ho1'
        have HBv := Lib.hid (show Below wa.heap.size wa (wa.alloc (.cells #[.int .i64 k, .int .i64 sg, .slice A n c] 83)) from (Below.refl _ _).alloc (Nat.le_refl _) _)
        have HOv := Lib.hid (below_own HOa.out HBv.out (Nat.le_refl _))
        have HNv := Lib.hid (show Has (wa.alloc (.cells #[.int .i64 k, .int .i64 sg, .slice A n c] 83)) (wa.heap.size + 1) (some ⟨wa.heap.size, 0, none⟩) (deCells [(⟨⟨k, sg, b⟩, A, c⟩ : De)]) from by
          have := Has.fresh wa #[.int .i64 k, .int .i64 sg, .slice A n c] 83
          rw [← HN.out.1] at this ⊢
          exact this)
        have HO2 := Lib.hid (deCells_one [(⟨⟨k, sg, b⟩, A, c⟩ : De)])
        have HM2 := Lib.hid (show i + 1 ≤ maxLen ∧ (i + 1) * 40 ≤ 140737488355328 ∧ w.heap.size ≤ (wa.alloc (.cells #[.int .i64 k, .int .i64 sg, .slice A n c] 83)).heap.size from ⟨by unfold maxLen; omega, by omega, Nat.le_trans HBa.out.size HBv.out.size⟩)
        go_wp2_with (at_builtin; refine wpList_apps rfl _ _ 30 rfl w.heap.size 83 i0 _ 3 40 Try.underlying30 hi0 hx0 hx1 hx2 rfl (by decide) _ i _ rfl HOv.out _ (some ⟨wa.heap.size, 0, none⟩) 1 1 (deCells [(⟨⟨k, sg, b⟩, A, c⟩ : De)]) rfl rfl HNv.out (fun h => nomatch h) HO2.out HM2.out.1 HM2.out.2.1 HM2.out.2.2 ?_)
        intro u2 wb ho2 hg2 _
        have HBb := Lib.hid ((HBa.out.trans (HBv.out.mono HBa.out.size)).grown hg2 HM2.out.2.2 (fun k hk => (HOv.out.lt k hk).1))
        have HOb := Lib.hid ho2
        obtain ⟨Ab, cb, rfl, -, -⟩ := own_slice ho2
        clear ho2 hg2 e0 e1 e2
        have HT3 := Lib.hid (dhas_tail (k := i) ((has_rows HR.out.own).below HBb.out (Nat.le_refl _)) HA.out.2.1)
        have HL3 := Lib.hid (show (deCells (M.drop i)).length = (n0 - i) * 3 by rw [deCells_len, List.length_drop, HR.out.len, HN.out.2.1])
        have HO3 := Lib.hid (deCells_one (M.drop i))
        have HN3 := Lib.hid (fun h => dtail_none (c := c0) (k := i) HNil.out h)
        have HM3 := Lib.hid (show i + 1 + (n0 - i) ≤ maxLen ∧ (i + 1 + (n0 - i)) * 40 ≤ 140737488355328 ∧ w.heap.size ≤ wb.heap.size from ⟨by unfold maxLen; omega, by omega, HBb.out.size⟩)
        go_wp2_with (at_builtin; refine wpList_apps rfl _ _ 30 rfl w.heap.size 83 i0 _ 3 40 Try.underlying30 hi0 hx0 hx1 hx2 rfl (by decide) _ (i + 1) _ rfl HOb.out _ (tailD (some ⟨g, 0, none⟩) c0 i) (n0 - i) (c0 - i) (deCells (M.drop i)) rfl HL3.out HT3.out HN3.out HO3.out HM3.out.1 HM3.out.2.1 HM3.out.2.2 ?_)
        intro u3 wc ho3 hg3 _
        have HBc := Lib.hid (HBb.out.grown hg3 HM3.out.2.2 (fun k hk => (HOb.out.lt k hk).1))
        have HOc := Lib.hid ho3
        obtain ⟨Ac, cc, rfl, -, -⟩ := own_slice ho3
        clear ho3 hg3
        go_wp2_with fail
        go_ret2
        refine ⟨_, _, rfl, HR.out.add HB.out HBc.out HY.out (k := k) (sg := sg) ?_, HBc.out⟩
        rw [HN.out.2.2, deCells_app, deCells_app]
        have hln : (X ++ [(⟨k, sg, b⟩ : Dv)] ++ Z).length = i + 1 + (n0 - i) := by
          have h1 := HN.out.2.1
          have h2 := HN.out.2.2
          rw [List.length_append] at h1
          rw [List.length_append, List.length_append]
          simp only [List.length_singleton]
          omega
        rw [hln]
        first | exact HOc.out | (rw [List.append_assoc]; exact HOc.out)
    · obtain rfl : i = p := by omega
      go_wp2_with fail
      have hii : decide (0 < i) = false := decide_eq_false hi0'
      clear hi0'
      go_quiet (fail)
      clear b0
      obtain ⟨wq, hwq⟩ : ∃ y, (w1.drewN m).drewN nq = y := ⟨_, rfl⟩
      have HQ := Lib.hid (show Below w.heap.size w wq ∧ Blk wq gv 83 #[.int .i64 k, .int .i64 sg, .slice A n c] from by
        rw [← hwq]
        exact ⟨HB0.out.trans ⟨rfl, rfl, rfl, Nat.le_refl _, fun _ _ => rfl⟩, HBx.out⟩)
      rw [hwq]
      clear hwq
      have hL1 : (deCells (M.take i)).length = i * 3 := by rw [deCells_len, List.length_take, HR.out.len, HN.out.2.1, Nat.min_eq_left hi]
      have HA := Lib.hid (show Has wq wq.heap.size A0 (deCells M) ∧ M.length ≤ c0 ∧ (A0 = none → c0 = 0) from ⟨((has_rows HR.out.own).below HQ.out.1 (Nat.le_refl _)).more HQ.out.1.size, by rw [HR.out.len, HN.out.2.1]; exact HL0.out, HNil.out⟩)
      have HL1 := Lib.hid hL1
      have HO1 := Lib.hid (deCells_one (M.take i))
      have HT1 := Lib.hid (dhas_take (k := i) HA.out.1)
      have HM1 := Lib.hid (show 0 + i ≤ maxLen ∧ (0 + i) * 40 ≤ 140737488355328 ∧ w.heap.size ≤ wq.heap.size from ⟨by unfold maxLen; omega, by omega, HQ.out.1.size⟩)
      go_wp2_with (at_builtin; refine wpList_apps rfl _ _ 30 rfl w.heap.size 83 i0 _ 3 40 Try.underlying30 hi0 hx0 hx1 hx2 rfl (by decide) (.slice none 0 0) 0 [] rfl (World.ownsRow_nil _ _ _ _) wq.heap.size A0 i c0 (deCells (M.take i)) rfl HL1.out HT1.out HNil.out HO1.out HM1.out.1 HM1.out.2.1 HM1.out.2.2 ?_)
      intro u1 wa ho1 hg1 _
      have hba := HQ.out.1.grown hg1 HM1.out.2.2 (fun k hk => by cases hk)
      have hbq : Below wq.heap.size wq wa := (Below.refl _ _).grown hg1 (Nat.le_refl _) (fun k hk => by cases hk)
      have hxa := HQ.out.2.below hbq HQ.out.2.lt
      have e0 := hxa.cell 0
      have e1 := hxa.cell 1
      have e2 := hxa.cell 2
      simp only [List.getElem?_toArray, List.getElem?_cons_zero, List.getElem?_cons_succ] at e0 e1 e2
      have ho1' : wa.ownsRow w.heap.size 83 3 u1 i (deCells (M.take i)) := by simpa using ho1
      have HOa := Lib.hid ho1'
      have HBa := Lib.hid hba
      have HAa := Lib.hid (HA.out.1.below hbq (Nat.le_refl _))
      clear ho1 hg1 hba hbq hxa
      obtain ⟨Aa, ca, rfl, -, -⟩ := own_slice ho1'
      clear ho1'
      have HBv := Lib.hid (show Below wa.heap.size wa (wa.alloc (.cells #[.int .i64 k, .int .i64 sg, .slice A n c] 83)) from (Below.refl _ _).alloc (Nat.le_refl _) _)
      have HOv := Lib.hid (below_own HOa.out HBv.out (Nat.le_refl _))
      have HNv := Lib.hid (show Has (wa.alloc (.cells #[.int .i64 k, .int .i64 sg, .slice A n c] 83)) (wa.heap.size + 1) (some ⟨wa.heap.size, 0, none⟩) (deCells [(⟨⟨k, sg, b⟩, A, c⟩ : De)]) from by
        have := Has.fresh wa #[.int .i64 k, .int .i64 sg, .slice A n c] 83
        rw [← HN.out.1] at this ⊢
        exact this)
      have HO2 := Lib.hid (deCells_one [(⟨⟨k, sg, b⟩, A, c⟩ : De)])
      have HM2 := Lib.hid (show i + 1 ≤ maxLen ∧ (i + 1) * 40 ≤ 140737488355328 ∧ w.heap.size ≤ (wa.alloc (.cells #[.int .i64 k, .int .i64 sg, .slice A n c] 83)).heap.size from ⟨by unfold maxLen; omega, by omega, Nat.le_trans HBa.out.size HBv.out.size⟩)
      go_wp2_with (at_builtin; refine wpList_apps rfl _ _ 30 rfl w.heap.size 83 i0 _ 3 40 Try.underlying30 hi0 hx0 hx1 hx2 rfl (by decide) _ i _ rfl HOv.out _ (some ⟨wa.heap.size, 0, none⟩) 1 1 (deCells [(⟨⟨k, sg, b⟩, A, c⟩ : De)]) rfl rfl HNv.out (fun h => nomatch h) HO2.out HM2.out.1 HM2.out.2.1 HM2.out.2.2 ?_)
      intro u2 wb ho2 hg2 _
      have HBb := Lib.hid ((HBa.out.trans (HBv.out.mono HBa.out.size)).grown hg2 HM2.out.2.2 (fun k hk => (HOv.out.lt k hk).1))
      have HOb := Lib.hid ho2
      obtain ⟨Ab, cb, rfl, -, -⟩ := own_slice ho2
      clear ho2 hg2 e0 e1 e2
      have HT3 := Lib.hid (dhas_tail (k := i) ((has_rows HR.out.own).below HBb.out (Nat.le_refl _)) HA.out.2.1)
      have HL3 := Lib.hid (show (deCells (M.drop i)).length = (n0 - i) * 3 by rw [deCells_len, List.length_drop, HR.out.len, HN.out.2.1])
      have HO3 := Lib.hid (deCells_one (M.drop i))
      have HN3 := Lib.hid (fun h => dtail_none (c := c0) (k := i) HNil.out h)
      have HM3 := Lib.hid (show i + 1 + (n0 - i) ≤ maxLen ∧ (i + 1 + (n0 - i)) * 40 ≤ 140737488355328 ∧ w.heap.size ≤ wb.heap.size from ⟨by unfold maxLen; omega, by omega, HBb.out.size⟩)
      go_wp2_with (at_builtin; refine wpList_apps rfl _ _ 30 rfl w.heap.size 83 i0 _ 3 40 Try.underlying30 hi0 hx0 hx1 hx2 rfl (by decide) _ (i + 1) _ rfl HOb.out _ (tailD A0 c0 i) (n0 - i) (c0 - i) (deCells (M.drop i)) rfl HL3.out HT3.out HN3.out HO3.out HM3.out.1 HM3.out.2.1 HM3.out.2.2 ?_)
      intro u3 wc ho3 hg3 _
      have HBc := Lib.hid (HBb.out.grown hg3 HM3.out.2.2 (fun k hk => (HOb.out.lt k hk).1))
      have HOc := Lib.hid ho3
      obtain ⟨Ac, cc, rfl, -, -⟩ := own_slice ho3
      clear ho3 hg3
      go_wp2_with fail
      go_ret2
      refine ⟨_, _, rfl, HR.out.add HB.out HBc.out HY.out (k := k) (sg := sg) ?_, HBc.out⟩
      rw [HN.out.2.2, deCells_app, deCells_app]
      have hln : (X ++ [(⟨k, sg, b⟩ : Dv)] ++ Z).length = i + 1 + (n0 - i) := by
        have h1 := HN.out.2.1
        have h2 := HN.out.2.2
        rw [List.length_append] at h1
        rw [List.length_append, List.length_append]
        simp only [List.length_singleton]
        omega
      rw [hln]
      first | exact HOc.out | (rw [List.append_assoc]; exact HOc.out)
set_option maxRecDepth 100000 in
set_option maxHeartbeats 4000000 in
theorem radd_old {y : Dv} (hr : DRow w Y v (X ++ y :: Z) M) (hD : (X ++ y :: Z).length ≤ 13) (hy : y.nd = k) (hZ : ∀ x ∈ Z, k < x.nd) :
    Calls Try.prog 30 #[v, .agg #[.int .i64 k, .int .i64 sg, .slice A n c]] w fun e w' => e = .returned (.tuple #[v, .bool false]) ∧ Below w.heap.size w w' := by
  have HB0 := Lib.hid (show Below w.heap.size w (w.alloc (.cells #[.int .i64 k, .int .i64 sg, .slice A n c] 83)) from (Below.refl _ _).alloc (Nat.le_refl _) _)
  have HBx := Lib.hid (Blk.new w 83 #[.int .i64 k, .int .i64 sg, .slice A n c])
  obtain ⟨A0, c0, rfl, -, -⟩ := own_slice hr.own
  obtain ⟨n0, hn0⟩ : ∃ y', (X ++ y :: Z).length = y' := ⟨_, rfl⟩
  obtain ⟨p, hp⟩ : ∃ y, X.length = y := ⟨_, rfl⟩
  have hpn : p < n0 := by rw [← hp, ← hn0, List.length_append, List.length_cons]; omega
  rw [hn0] at hD ⊢
  have HCell := Lib.hid (fun (j : Nat) (hj : j < n0) => hr.cells (k := j) (by rw [hn0]; exact hj))
  rw [hn0] at HCell
  have HAt := Lib.hid (fun (j : Nat) (x : Dv) (hx : (X ++ y :: Z)[j]? = some x) => show (p < j → k < x.nd) ∧ (j = p → x.nd = k) from ⟨fun h => by
      have : (X ++ [y] ++ Z)[j]? = some x := by rw [List.append_assoc]; exact hx
      exact split_above hZ this (by rw [List.length_append, hp]; exact h), fun h => by
      subst h
      rw [List.getElem?_append_right (by rw [hp]; exact Nat.le_refl _), hp, Nat.sub_self, List.getElem?_cons_zero] at hx
      injection hx with hx
      rw [← hx]; exact hy⟩)
  clear hr hy hZ hn0 hp
  go_enter Try.func30, Try.ntmps30
  obtain ⟨w1, hw1⟩ : ∃ w1, w.alloc (.cells #[.int .i64 k, .int .i64 sg, .slice A n c] 83) = w1 := ⟨_, rfl⟩
  obtain ⟨gv, hgv⟩ : ∃ y, w.heap.size = y := ⟨_, rfl⟩
  go_wp2_with fail
  have HGv := Lib.hid hgv
  rw [hw1] at HB0 HBx
  rw [hgv] at HBx
  clear hw1 hgv
  go_loopw [6] (fun x wr => ∃ (i m : Nat), x = .int .i64 i ∧ i ≤ n0 ∧ p < i ∧ wr = w1.drewN m) (fun x _ => (intOf x).toNat)
  case atStart => exact ⟨n0, 0, rfl, Nat.le_refl _, hpn, rfl⟩
  case round =>
    obtain ⟨i, m, rfl, hi, hpi, rfl⟩ := hrel
    have b00 : w1.cell? ⟨gv, 0, none⟩ = some (.int .i64 k) := HBx.out.cell 0
    have b0 := fun (m' : Nat) => (show ((w1.drewN m).drewN m').cell? ⟨gv, 0, none⟩ = some (.int .i64 k) from HBx.out.cell 0)
    have hi0' : 0 < i := by omega
    obtain ⟨j, hj⟩ : ∃ j, j + 1 = i := ⟨i - 1, by omega⟩
    have hjn : j < n0 := by omega
    obtain ⟨g, c', x, hv, hM, hx, d0, _, _⟩ := HCell.out j hjn
    have hv0 := hv
    injection hv with hA0 _ hc0
    subst hA0 hc0
    have hgl : g < w.heap.size := block_lt d0
    obtain ⟨h3, h4⟩ := HAt.out j _ hx
    obtain ⟨nd, hnd⟩ : ∃ y, x.o.nd = y := ⟨_, rfl⟩
    rw [hnd] at d0 h3 h4
    have a00 : w1.cell? ⟨g, j * 3, none⟩ = some (.int .i64 nd) := (HB0.out.cell (p := ⟨g, j * 3, none⟩) hgl).trans d0
    have a0 := fun (m' : Nat) => (show ((w1.drewN m).drewN m').cell? ⟨g, j * 3, none⟩ = some (.int .i64 nd) from a00)
    have hji : (i : Int) - 1 = (j : Int) := by omega
    have hjl : (j : Int) < (n0 : Int) := by omega
    have HWj := Lib.hid (show IntKind.i64.wrap (j : Int) = (j : Int) from by rw [IntKind.wrap_i64]; omega)
    by_cases hpj : p < j
    · have hgt := h3 hpj
      have h1 : decide (k ≤ nd) = true := decide_eq_true (by omega)
      have h2 : (nd == k) = false := by simp; omega
      clear hM hx d0 hnd hgt h3 h4 hv0
      have hwj := HWj.out
      go_wp2_with fail
      have hii : decide (0 < i) = true := decide_eq_true hi0'
      go_quiet (fail)
      have a1 := fun (m' : Nat) => a0 (nq + m')
      have b1 := fun (m' : Nat) => b0 (nq + m')
      go_wp2_with fail
      go_quiet (fail)
      go_wp2_with fail
      go_roundw
      case rel => exact ⟨j, _, by first | go_num | (congr 1; omega), by omega, by omega, rfl⟩
      case measure => simp [intOf]; omega
    · obtain rfl : j = p := by omega
      obtain rfl := h4 rfl
      clear hM hx d0 hnd h3 hpj hv0
      have h1 : decide (nd ≤ nd) = true := decide_eq_true (Int.le_refl _)
      have h2 : (nd == nd) = true := by simp
      have hwj := HWj.out
      go_wp2_with fail
      have hii : decide (0 < i) = true := decide_eq_true hi0'
      go_quiet (fail)
      have a1 := fun (m' : Nat) => a0 (nq + m')
      have b1 := fun (m' : Nat) => b0 (nq + m')
      go_wp2_with fail
      go_quiet (fail)
      go_wp2_with fail
      go_ret2
      exact ⟨rfl, HB0.out.trans ⟨rfl, rfl, rfl, Nat.le_refl _, fun _ _ => rfl⟩⟩
end
end Go.Proofs.Ytcebnmhkbhhfiaa
namespace Go.Proofs.Ytcebnmhkbhhfiaa
open Go.RowKit
set_option linter.unusedSimpArgs false

/-- Add, at the votes of a row of nodes. -/
theorem radd_any {w : World} {Y : Nat → Prop} {v : Value} {L : List Vo} {M : List De} {A : Option Addr} {n c : Nat} {b : List Rq} {k : Nat} {sg : Int} (hr : DRow w Y v (dvs 0 L) M) (hL : L.length ≤ 13) (hk : k < L.length) (hb : DBat w Y A c b) (hn : b.length = n) (hY : ∀ k, Y k → k < w.heap.size) :
    Calls Try.prog 30 #[v, .agg #[.int .i64 (k : Int), .int .i64 sg, .slice A n c]] w fun e w' => ∃ u M', e = .returned (.tuple #[u, .bool (votS L k sg b).1]) ∧ DRow w' Y u (dvs 0 (votS L k sg b).2) M' ∧ Below w.heap.size w w' := by
  obtain ⟨x, hx⟩ : ∃ x, L[k]? = some x := ⟨_, List.getElem?_eq_getElem hk⟩
  obtain ⟨h1, h2, h3⟩ := dvs_split L (Nat.le_of_lt hk)
  have hD : (dvs 0 L).length ≤ 13 := Nat.le_trans (dvs_len L 0) hL
  cases hc : x.ca with
  | true =>
    rw [votS_had hx hc]
    have hd : L.drop k = x :: L.drop (k + 1) := by
      rw [List.drop_eq_getElem_cons hk]
      congr 1
      rw [List.getElem?_eq_getElem hk] at hx
      exact Option.some.inj hx
    have h4 : dvs 0 L = dvs 0 (L.take k) ++ (⟨(k : Int), x.sg, x.bt⟩ : Dv) :: dvs (k + 1) (L.drop (k + 1)) := by
      rw [h1, hd, dvs_cons, if_pos hc]
    have hr' := hr
    rw [h4] at hr' hD
    refine (radd_old hr' hD rfl (fun y hy => ?_)).mono ?_
    · have := (dvs_nd _ _ y hy).1
      show (k : Int) < y.nd
      omega
    · rintro e w' ⟨rfl, hb'⟩
      exact ⟨v, M, rfl, hr.below hb', hb'⟩
  | false =>
    rw [votS_new hx hc]
    have h4 := dvs_above hx hc
    have hr' := hr
    have h5 := dvs_new hx hc (y := ⟨true, sg, b⟩) rfl
    unfold dPlace at h5
    rw [h1] at hr' hD h5
    rw [List.take_left', List.drop_left'] at h5
    · refine (radd_new (k := k) (sg := sg) hr' hD h2 h4 hb hn hY).mono ?_
      rintro e w' ⟨u, M', rfl, hr2, hb'⟩
      refine ⟨u, M', rfl, ?_, hb'⟩
      rw [h5]
      exact hr2
    all_goals rfl
/-- The document's slot in block pb: what it has does not lie in Y. -/
structure Ds (w : World) (Y : Nat → Prop) (pb : Nat) (s : Sx) : Prop where
  mem : ∃ A c v1 v2 M1 M2, Blk w pb 32 #[.bool s.ch.isSome, .slice A (s.ch.getD []).length c, v1, v2] ∧ DBat w Y A c (s.ch.getD []) ∧ DRow w Y v1 (dvs 0 s.P) M1 ∧ DRow w Y v2 (dvs 0 s.C) M2
section
variable {w w' : World} {Y Y' : Nat → Prop} {pb : Nat} {s : Sx}
theorem Ds.kept (h : Ds w Y pb s) (ht : Turn Y w w') (hp : ¬ Y pb) : Ds w' Y pb s := by
  obtain ⟨A, c, v1, v2, M1, M2, a, b, d, e⟩ := h.mem
  exact ⟨A, c, v1, v2, M1, M2, ht.blk a hp, b.kept ht, d.kept ht, e.kept ht⟩
theorem Ds.below (h : Ds w Y pb s) (hb : Below w.heap.size w w') : Ds w' Y pb s := by
  obtain ⟨A, c, v1, v2, M1, M2, a, b, d, e⟩ := h.mem
  exact ⟨A, c, v1, v2, M1, M2, a.below hb a.lt, b.below hb, d.below hb, e.below hb⟩
theorem Ds.drewN (h : Ds w Y pb s) (m : Nat) : Ds (w.drewN m) Y pb s := h.below ⟨rfl, rfl, rfl, Nat.le_refl _, fun _ _ => rfl⟩
theorem Ds.mono (h : Ds w Y pb s) (hy : ∀ k, k < w.heap.size → Y' k → Y k) : Ds w Y' pb s := by
  obtain ⟨A, c, v1, v2, M1, M2, a, b, d, e⟩ := h.mem
  exact ⟨A, c, v1, v2, M1, M2, a, b.mono hy, d.mono hy, e.mono hy⟩
theorem Ds.lt (h : Ds w Y pb s) : pb < w.heap.size := by
  obtain ⟨A, c, v1, v2, M1, M2, a, _⟩ := h.mem
  exact a.lt
end
set_option maxRecDepth 100000 in
set_option maxHeartbeats 4000000 in
theorem rcom_any {w : World} {Y : Nat → Prop} {pb q n : Nat} {s : Sx} (h : Ds w Y pb s) (hl : s.C.length = n) (h13 : n ≤ 13) (hq9 : q ≤ 9) (h0 : 0 < q) (hn : n < 2 * q) :
    Calls Try.prog 36 #[.pointer (some ⟨pb, 0, none⟩), .int .i64 (q : Int)] w fun e w' => ∃ A m c B d, e = .returned (.tuple #[.slice A m c, .slice B (votOf (s.com q)).length d, .bool (s.com q).isSome]) ∧ m = (batOf (s.com q)).length ∧
      Has w' w'.heap.size A (reqCells (batOf (s.com q))) ∧ w'.ownsRow w.heap.size 78 2 (.slice B (votOf (s.com q)).length d) (votOf (s.com q)).length (voteCells (votOf (s.com q))) ∧ Below w.heap.size w w' := by
  obtain ⟨A, c, v1, v2, M1, M2, hb, _, _, hr⟩ := h.mem
  have HK := Lib.hid hb
  have HR := Lib.hid hr
  have hD13 : (dvs 0 s.C).length ≤ 13 := by have := dvs_len s.C 0; omega
  have HE := Lib.hid (show s.com q = comD q (dvs 0 s.C) (dvs 0 s.C) from (comD_dvs h0 (by rw [hl]; exact hn)).symm)
  obtain ⟨D, hD⟩ : ∃ y, dvs 0 s.C = y := ⟨_, rfl⟩
  rw [hD] at HR HE hD13
  obtain ⟨A0, c0, rfl, -, -⟩ := own_slice hr.own
  obtain ⟨n0, hn0⟩ : ∃ y, D.length = y := ⟨_, rfl⟩
  rw [hD, hn0] at hb HK
  rw [hD] at HR
  have HN0 := Lib.hid hn0
  have hn13 : n0 ≤ 13 := by rw [← hn0]; exact hD13
  have k3 := hb.cell 3
  simp only [List.getElem?_toArray, List.getElem?_cons_zero, List.getElem?_cons_succ] at k3
  obtain ⟨r, hrr⟩ : ∃ y, s.com q = y := ⟨_, rfl⟩
  rw [hrr] at HE ⊢
  have H13 := Lib.hid hD13
  clear h hb hr hD hn0 hl h13 hn hrr hD13
  go_enter Try.func36, Try.ntmps36
  go_wp2_with fail
  go_loopw [7, 8, 9] (fun x _ _ wr => ∃ (k : Nat), x = .int .i64 k ∧ k ≤ n0 ∧ Hid (∀ y ∈ D.take k, decD D y.bt q = none) ∧ Hid (Below w.heap.size w wr)) (fun x _ _ _ => n0 - (intOf x).toNat)
  case atStart => exact ⟨0, rfl, Nat.zero_le _, (fun y hy => by simp at hy), Below.refl _ _⟩
  case round =>
    obtain ⟨k, rfl, hk, HNo, HB⟩ := hrel
    have hkw := HK.out.below HB.out HK.out.lt
    have w3 := hkw.cell 3
    simp only [List.getElem?_toArray, List.getElem?_cons_zero, List.getElem?_cons_succ] at w3
    by_cases hlt : k < n0
    · have hkD : k < D.length := by rw [HN0.out]; exact hlt
      obtain ⟨g, c', x, hv, hM, hx, d0, d1, d2⟩ := (HR.out.below HB.out).cells hkD
      injection hv with hA0 hn0' hc0
      subst hA0 hc0
      have HX := Lib.hid hx
      have HBt := Lib.hid ((HR.out.all x (List.mem_of_getElem? hM)).below HB.out)
      obtain ⟨nx, hnx⟩ : ∃ y, x.o.bt.length = y := ⟨_, rfl⟩
      rw [hnx] at d2
      have HNx := Lib.hid hnx
      have hki : (k : Int) < (n0 : Int) := by omega
      have hD : Calls Try.prog 34 #[.slice (some ⟨g, 0, none⟩) n0 c0, .slice x.A nx x.c, .int .i64 (q : Int)] wr.drew fun e w' => ∃ u, e = .returned (.tuple #[u, .bool (decD D x.o.bt q).isSome]) ∧ w'.ownsRow w.heap.size 78 2 u (vtsOf (decD D x.o.bt q)).length (voteCells (vtsOf (decD D x.o.bt q))) ∧ Below wr.heap.size wr w' := by
        have := rfor_any (w := wr.drew) ((HR.out.below HB.out).below (w' := wr.drew) ⟨rfl, rfl, rfl, Nat.le_refl _, fun _ _ => rfl⟩) H13.out (c := x.c) HBt.out.has.drew HNx.out hq9
        rw [HN0.out] at this
        exact this.mono fun e w' ⟨u, a1, a2, a3⟩ => ⟨u, a1, own_base a2 HB.out.size, Below.trans (⟨rfl, rfl, rfl, Nat.le_refl _, fun _ _ => rfl⟩ : Below wr.heap.size wr wr.drew) a3⟩
      have HD := Lib.hid hD
      obtain ⟨r', hr'⟩ : ∃ y, decD D x.o.bt q = y := ⟨_, rfl⟩
      have HDr := Lib.hid hr'
      rw [hr'] at HD
      have HCells := Lib.hid (fun (w2 : World) (hb : Below wr.heap.size wr w2) => show w2.cell? ⟨pb, 3, none⟩ = some (.slice (some ⟨g, 0, none⟩) n0 c0) ∧ w2.cell? ⟨g, k * 3 + 2, none⟩ = some (.slice x.A nx x.c) from
        ⟨(hkw.below hb hkw.lt).cell 3, (hb.cell (p := ⟨g, k * 3 + 2, none⟩) (block_lt d2)).trans d2⟩)
      have hq1 : wr.drew.cell? ⟨pb, 3, none⟩ = some (.slice (some ⟨g, 0, none⟩) n0 c0) ∧ wr.drew.cell? ⟨g, k * 3 + 2, none⟩ = some (.slice x.A nx x.c) := HCells.out _ ⟨rfl, rfl, rfl, Nat.le_refl _, fun _ _ => rfl⟩
      clear hM hx hkD hn0' hnx hD hr' d0 d1 d2 hkw
      cases r' with
      | none =>
        have HNo2 := Lib.hid (show ∀ y ∈ D.take (k + 1), decD D y.bt q = none from fun y hy => by
          rw [List.take_add_one, HX.out] at hy
          rcases List.mem_append.1 hy with hy | hy
          · exact HNo.out y hy
          · obtain rfl : y = x.o := by simpa using hy
            exact HDr.out)
        go_wp2_with fail
        go_region_held3 (fun w' => w'.cell? ⟨pb, 3, none⟩ = some (.slice (some ⟨g, 0, none⟩) n0 c0) ∧ w'.cell? ⟨g, k * 3 + 2, none⟩ = some (.slice x.A nx x.c)) (first | exact hq1 | exact hq2 | go_keep)
          ((go_at_call 34; refine HD.out.mono ?_; rintro e w2 ⟨v', rfl, ho, hb⟩; have hq2 := HCells.out _ hb; obtain ⟨A2, d2, rfl, -, -⟩ := own_slice ho))
        have HB2 := Lib.hid (HB.out.trans (hb.mono HB.out.size))
        clear ho hb hq1 hq2
        go_wp2_with fail
        go_roundw
        case rel => exact ⟨k + 1, by go_num, by omega, HNo2, HB2⟩
        case measure => simp [intOf]; omega
      | some vs =>
        have HCom := Lib.hid (show comD q D D = some (x.o.bt, vs) from comD_take HX.out HNo.out HDr.out)
        go_wp2_with fail
        go_region_held3 (fun w' => w'.cell? ⟨pb, 3, none⟩ = some (.slice (some ⟨g, 0, none⟩) n0 c0) ∧ w'.cell? ⟨g, k * 3 + 2, none⟩ = some (.slice x.A nx x.c)) (first | exact hq1 | exact hq2 | go_keep)
          ((go_at_call 34; refine HD.out.mono ?_; rintro e w2 ⟨v', rfl, ho, hb⟩; have hq2 := HCells.out _ hb; obtain ⟨A2, d2, rfl, -, -⟩ := own_slice ho))
        obtain ⟨q3, q4⟩ := hq2
        have HO := Lib.hid ho
        have HB2 := Lib.hid (HB.out.trans (hb.mono HB.out.size))
        have HH2 := Lib.hid ((HBt.out.below hb).has)
        clear ho hb hq1
        go_wp2_with fail
        go_ret3
        rw [HE.out, HCom.out]
        exact ⟨x.A, nx, x.c, A2, d2, rfl, HNx.out.symm, HH2.out, HO.out, HB2.out⟩
    · obtain rfl : k = n0 := by omega
      have HCom := Lib.hid (show comD q D D = none from comD_end HNo.out (by rw [HN0.out]; exact Nat.le_refl _))
      clear hkw
      go_wp2_with fail
      go_ret3
      rw [HE.out, HCom.out]
      exact ⟨none, 0, 0, none, 0, rfl, rfl, Has.nil _ _ _, World.ownsRow_nil _ _ _ _, HB.out⟩
end Go.Proofs.Ytcebnmhkbhhfiaa
namespace Go.Proofs.Ytcebnmhkbhhfiaa
open Go.RowKit
set_option linter.unusedSimpArgs false

set_option maxRecDepth 100000 in
set_option maxHeartbeats 4000000 in
theorem right14_any {w : World} {Z Y : Nat → Prop} {sb pb : Nat} {v1 v2 : Value} {f : Int} {s : Sx} (h : Sl w Z sb v1 v2 f s) (hd : Ds w Y pb s) :
    Calls Try.prog 10 #[.pointer (some ⟨sb, 0, none⟩), .pointer (some ⟨pb, 0, none⟩), .int .i64 f] w fun e w' => e = .returned (.bool true) ∧ Below w.heap.size w w' := by
  obtain ⟨q, hq⟩ : ∃ q : Nat, (q : Int) = 2 * f + 1 := ⟨(2 * f + 1).toNat, by have := h.f1; omega⟩
  have hq9 : 0 < q ∧ q ≤ 9 := by have := h.f1; have := h.f4; omega
  obtain ⟨n, hn⟩ : ∃ y, s.C.length = y := ⟨_, rfl⟩
  have HQn := Lib.hid (show n ≤ 13 ∧ n < 2 * q by have := h.n2; have := h.f4; omega)
  have HPl := Lib.hid (show s.P.length ≤ 13 by have := h.n1; have := h.f4; omega)
  have HSl := Lib.hid h
  have HDs := Lib.hid hd
  have HCn := Lib.hid hn
  have HQ := Lib.hid (fun (w : World) => (show Calls Try.prog 35 #[.int .i64 f] w fun e w' => e = .returned (.int .i64 (q : Int)) ∧ w = w' from by
    have := rquorum_any f w
    rwa [quorumS_in h.f1 h.f4, ← hq] at this))
  have HQq := Lib.hid hq
  have HLow := Lib.hid (h.com_low q)
  obtain ⟨A, c, r1, r2, M1, M2, hb, hbt, hr1, hr2⟩ := hd.mem
  have HK := Lib.hid hb
  have HBt := Lib.hid hbt
  have HR1 := Lib.hid hr1
  obtain ⟨Ap, cp, rfl, -, -⟩ := own_slice hr1.own
  obtain ⟨Ac, cc, rfl, -, -⟩ := own_slice hr2.own
  obtain ⟨np, hnp⟩ : ∃ y, (dvs 0 s.P).length = y := ⟨_, rfl⟩
  obtain ⟨nc, hnc⟩ : ∃ y, (dvs 0 s.C).length = y := ⟨_, rfl⟩
  have HD13 := Lib.hid (show (dvs 0 s.P).length ≤ 13 from Nat.le_trans (dvs_len _ _) HPl.out)
  rw [hnp, hnc] at HK
  have HNp := Lib.hid hnp
  have HCh := Lib.hid (schosen_any h)
  have HPr := Lib.hid (fun (wz : World) (hb : Below w.heap.size w wz) => sprep_any (h.below hb) hq)
  have HCo := Lib.hid (fun (wz : World) (hb : Below w.heap.size w wz) => scom_any (h.below hb) hq)
  have HCd := Lib.hid (fun (wz : World) (hb : Below w.heap.size w wz) => rcom_any (hd.below hb) hn HQn.out.1 hq9.2 hq9.1 HQn.out.2)
  have HFo := Lib.hid (fun (wz : World) (hb : Below w.heap.size w wz) (b : List Rq) (hbb : s.ch.getD [] = b) (k : Nat) (hk : b.length = k) => show Calls Try.prog 34 #[.slice Ap np cp, .slice A k c, .int .i64 (q : Int)] wz fun e w' => ∃ u, e = .returned (.tuple #[u, .bool (decS s.P b q).isSome]) ∧ w'.ownsRow wz.heap.size 78 2 u (vtsOf (decS s.P b q)).length (voteCells (vtsOf (decS s.P b q))) ∧ Below wz.heap.size wz w' from by
    subst hbb hk
    have := rfor_any (w := wz) (HR1.out.below hb) HD13.out (c := c) (HBt.out.below hb).has rfl hq9.2
    rw [HNp.out, decD_dvs] at this
    exact this)
  clear h hd hb hbt hr1 hr2 hn hq hnp hnc
  obtain ⟨cm, hcm⟩ : ∃ y, s.com q = y := ⟨_, rfl⟩
  obtain ⟨pr, hpr⟩ : ∃ y, s.prep q = y := ⟨_, rfl⟩
  have HPrE := Lib.hid hpr
  rw [hpr] at HPr
  rw [hcm] at HCo HCd HLow
  obtain ⟨nb, hnb⟩ : ∃ y, (batOf cm).length = y := ⟨_, rfl⟩
  obtain ⟨nv, hnv⟩ : ∃ y, (votOf cm).length = y := ⟨_, rfl⟩
  obtain ⟨ok, hok⟩ : ∃ y, cm.isSome = y := ⟨_, rfl⟩
  have HNb := Lib.hid hnb
  have HNv := Lib.hid hnv
  rw [hnb, hnv, hok] at HCo HCd
  rw [hnb] at HLow
  have hnv13 : nv ≤ 13 := by
    rw [← hnv]
    have h13 := HQn.out.1
    have hcn := HCn.out
    cases hc2 : cm with
    | none => exact Nat.zero_le _
    | some r =>
      obtain ⟨b, v⟩ := r
      rw [hc2] at hcm
      have h2 := (decS_is (comS_is hcm)).2.2
      show v.length ≤ 13
      rw [h2]; omega
  have hnb6 : nb ≤ 1000000 := HLow.out
  have hookk : (ok == ok) = true := by simp
  clear hcm hpr hnb hnv hok HLow
  cases hch : s.ch with
  | none =>
    have HPn := Lib.hid (show pr = none from by rw [← HPrE.out]; unfold Sx.prep; rw [hch])
    have hc0 := HK.out.cell 0
    have hc1 := HK.out.cell 1
    simp only [List.getElem?_toArray, List.getElem?_cons_zero, List.getElem?_cons_succ, hch, Option.isSome_none, Option.getD_none, List.length_nil] at hc0 hc1
    rw [hch] at HCh
    have HCells := Lib.hid (fun (w2 : World) (hb : Below w.heap.size w w2) => show w2.cell? ⟨pb, 0, none⟩ = some (.bool false) ∧ w2.cell? ⟨pb, 1, none⟩ = some (.slice A 0 c) from ⟨(hb.cell (p := ⟨pb, 0, none⟩) HK.out.lt).trans hc0, (hb.cell (p := ⟨pb, 1, none⟩) HK.out.lt).trans hc1⟩)
    clear hch hc0 hc1
    go_enter Try.func10, Try.ntmps10
    go_wp2_with fail
    refine HCh.out.mono ?_
    rintro e w3 ⟨u3, rfl, ho, hb⟩
    have HB3 := Lib.hid hb
    have ho' : w3.ownsRow w.heap.size 71 6 u3 0 (reqCells []) := ho
    obtain ⟨A3, c3, rfl, -, -⟩ := own_slice ho'
    clear ho hb HCh ho'
    obtain ⟨x0, x1⟩ := HCells.out w3 HB3.out
    have HSm := Lib.hid (same_reqs_is (A := A3) (A' := A) (c := c3) (c' := c) (la := 0) (lb := 0) (zs := []) (ys := []) (r := true) (B := 0) rfl rfl (by omega) (by decide +kernel) w3 (Has.nil _ _ _) (Has.nil _ _ _))
    go_wp2_with fail
    refine HSm.out.mono ?_
    rintro e w4 ⟨rfl, m4, rfl⟩
    have HB5 := Lib.hid (HB3.out.trans (show Below w.heap.size w3 (w3.drewN m4) from ⟨rfl, rfl, rfl, Nat.le_refl _, fun _ _ => rfl⟩))
    clear HSm x0 x1
    obtain ⟨w5, hw5⟩ : ∃ y, w3.drewN m4 = y := ⟨_, rfl⟩
    rw [hw5] at HB5 ⊢
    clear hw5
    obtain ⟨x0, x1⟩ := HCells.out w5 HB5.out
    have HPw := Lib.hid (HPr.out _ HB5.out)
    go_wp2_with fail
    refine HPw.out.mono ?_
    rintro e w6 ⟨u6, rfl, ho, hb⟩
    rw [HPn.out] at ho ⊢
    simp only [Option.isSome_none]
    have ho' : w6.ownsRow w5.heap.size 78 2 u6 0 (voteCells []) := ho
    obtain ⟨A6, c6, rfl, -, -⟩ := own_slice ho'
    clear ho'
    have HO6 := Lib.hid ho
    have HB6 := Lib.hid (HB5.out.trans (hb.mono HB5.out.size))
    clear ho hb HPw
    have HSm := Lib.hid (same_votes_is (A := none) (A' := A6) (c := 0) (c' := c6) (la := 0) (lb := 0) (zs := []) (ys := []) (r := true) (B := 0) rfl rfl (by omega) (by decide +kernel) w6 (Has.nil _ _ _) (Has.nil _ _ _))
    go_wp2_with fail
    refine HSm.out.mono ?_
    rintro e w7 ⟨rfl, m7, rfl⟩
    have HB7 := Lib.hid (HB6.out.trans (show Below w.heap.size w6 (w6.drewN m7) from ⟨rfl, rfl, rfl, Nat.le_refl _, fun _ _ => rfl⟩))
    clear HSm
    obtain ⟨w8, hw8⟩ : ∃ y, w6.drewN m7 = y := ⟨_, rfl⟩
    rw [hw8] at HB7 ⊢
    clear hw8
    go_wp2_with fail
    refine (HQ.out _).mono ?_
    rintro e wq ⟨rfl, rfl⟩
    have HCw := Lib.hid (HCd.out _ HB7.out)
    go_wp2_with fail
    refine HCw.out.mono ?_
    rintro e w9 ⟨A9, n9, c9, B9, d9, rfl, hn9, hh, ho, hb⟩
    obtain rfl := hn9.symm
    clear hn9
    have HB9 := Lib.hid (HB7.out.trans (hb.mono HB7.out.size))
    have HH9 := Lib.hid hh
    have HO9 := Lib.hid ho
    clear hh ho hb HCw
    have HCw := Lib.hid (HCo.out _ HB9.out)
    go_wp2_with fail
    refine HCw.out.mono ?_
    rintro e w10 ⟨u10, t10, rfl, ho, ho2, hb⟩
    have HB10 := Lib.hid (HB9.out.trans (hb.mono HB9.out.size))
    have HH10 := Lib.hid (HH9.out.below hb (Nat.le_refl _))
    have HO10 := Lib.hid (below_own HO9.out hb (Nat.le_refl _))
    have HS10 := Lib.hid hb.size
    have HR10 := Lib.hid ho
    have HV10 := Lib.hid ho2
    obtain ⟨Ax, cx, rfl, -, -⟩ := own_slice ho
    obtain ⟨Ay, cy, rfl, -, -⟩ := own_slice ho2
    clear ho ho2 hb HCw
    have HS1 := Lib.hid (same_reqs_is (A := A9) (A' := Ax) (c := c9) (c' := cx) (la := nb) (lb := nb) (zs := batOf cm) (ys := batOf cm) (r := true) HNb.out HNb.out (by omega) (sameL_self' _) w10 (HH10.out.more HS10.out) (has_rows HR10.out))
    have HS2 := Lib.hid (fun m => same_votes_is (A := B9) (A' := Ay) (c := d9) (c' := cy) (la := nv) (lb := nv) (zs := votOf cm) (ys := votOf cm) (r := true) HNv.out HNv.out (by omega) (sameL_self' _) (w10.drewN m) ((has_rows HO10.out).drewN m) ((has_rows HV10.out).drewN m))
    go_wp2_with fail
    refine HS1.out.mono ?_
    rintro e w11 ⟨rfl, m1, rfl⟩
    go_wp2_with fail
    refine (HS2.out _).mono ?_
    rintro e w11 ⟨rfl, m2, rfl⟩
    go_wp2_with fail
    go_ret
    exact ⟨rfl, HB10.out.trans ⟨rfl, rfl, rfl, Nat.le_refl _, fun _ _ => rfl⟩⟩
  | some b =>
    have HPn := Lib.hid (show decS s.P b q = pr from by rw [← HPrE.out]; unfold Sx.prep; rw [hch])
    have HGet := Lib.hid (show s.ch.getD [] = b from by rw [hch]; rfl)
    have hc0 := HK.out.cell 0
    have hc1 := HK.out.cell 1
    have hc2 := HK.out.cell 2
    obtain ⟨kb, hkb⟩ : ∃ y, b.length = y := ⟨_, rfl⟩
    have HKb := Lib.hid hkb
    simp only [List.getElem?_toArray, List.getElem?_cons_zero, List.getElem?_cons_succ, hch, Option.isSome_some, Option.getD_some, hkb] at hc0 hc1 hc2
    rw [hch] at HCh
    have HCells := Lib.hid (fun (w2 : World) (hb : Below w.heap.size w w2) => show w2.cell? ⟨pb, 0, none⟩ = some (.bool true) ∧ w2.cell? ⟨pb, 1, none⟩ = some (.slice A kb c) ∧ w2.cell? ⟨pb, 2, none⟩ = some (.slice Ap np cp) from ⟨(hb.cell (p := ⟨pb, 0, none⟩) HK.out.lt).trans hc0, (hb.cell (p := ⟨pb, 1, none⟩) HK.out.lt).trans hc1, (hb.cell (p := ⟨pb, 2, none⟩) HK.out.lt).trans hc2⟩)
    have hkb6 : kb ≤ 1000000 := by have := HBt.out.low; rw [HGet.out] at this; omega
    have HBh := Lib.hid (show Has w w.heap.size A (reqCells b) from by have := HBt.out.has; rw [HGet.out] at this; exact this)
    clear hch hc0 hc1 hc2 hkb
    go_enter Try.func10, Try.ntmps10
    go_wp2_with fail
    refine HCh.out.mono ?_
    rintro e w3 ⟨u3, rfl, ho, hb⟩
    have HB3 := Lib.hid hb
    have ho' : w3.ownsRow w.heap.size 71 6 u3 kb (reqCells b) := by rw [← HKb.out]; exact ho
    have HO3 := Lib.hid ho'
    obtain ⟨A3, c3, rfl, -, -⟩ := own_slice ho'
    clear ho hb HCh ho'
    obtain ⟨x0, x1, x2⟩ := HCells.out w3 HB3.out
    have HSm := Lib.hid (same_reqs_is (A := A3) (A' := A) (c := c3) (c' := c) (la := kb) (lb := kb) (zs := b) (ys := b) (r := true) HKb.out HKb.out (by omega) (sameL_self' _) w3 (has_rows HO3.out) ((HBh.out.below HB3.out (Nat.le_refl _)).more HB3.out.size))
    go_wp2_with fail
    refine HSm.out.mono ?_
    rintro e w4 ⟨rfl, m4, rfl⟩
    have HB4 := Lib.hid (HB3.out.trans (show Below w.heap.size w3 (w3.drewN m4) from ⟨rfl, rfl, rfl, Nat.le_refl _, fun _ _ => rfl⟩))
    clear HSm x0 x1 x2
    obtain ⟨w4, hw4⟩ : ∃ y, w3.drewN m4 = y := ⟨_, rfl⟩
    rw [hw4] at HB4 ⊢
    clear hw4
    obtain ⟨x0, x1, x2⟩ := HCells.out w4 HB4.out
    have HB4d := Lib.hid (HB4.out.trans (show Below w.heap.size w4 w4.drew from ⟨rfl, rfl, rfl, Nat.le_refl _, fun _ _ => rfl⟩))
    have HFw := Lib.hid (HFo.out _ HB4d.out b HGet.out kb HKb.out)
    rw [HPn.out] at HFw
    obtain ⟨np2, hnp2⟩ : ∃ y, (vtsOf pr).length = y := ⟨_, rfl⟩
    obtain ⟨okp, hokp⟩ : ∃ y, pr.isSome = y := ⟨_, rfl⟩
    have HNp2 := Lib.hid hnp2
    rw [hnp2, hokp] at HFw HPr
    have hnp13 : np2 ≤ 13 := by
      rw [← hnp2, ← HPn.out]
      have := decS_len (L := s.P) (b := b) (q := q)
      have := HPl.out
      omega
    have hokk : (okp != okp) = false := by simp
    have hq1 : w4.drew.cell? ⟨pb, 1, none⟩ = some (.slice A kb c) ∧ w4.drew.cell? ⟨pb, 2, none⟩ = some (.slice Ap np cp) := ⟨x1, x2⟩
    clear hnp2 hokp x1 x2
    go_wp2_with fail
    go_region_held3 (fun w' => w'.cell? ⟨pb, 1, none⟩ = some (.slice A kb c) ∧ w'.cell? ⟨pb, 2, none⟩ = some (.slice Ap np cp)) (first | exact hq1 | exact hq2 | go_keep)
      (first
      | (go_at_call 35; refine (HQ.out _).mono ?_; rintro e wq ⟨rfl, rfl⟩)
      | (go_at_call 34; refine HFw.out.mono ?_; rintro e w5 ⟨v', rfl, ho, hb⟩; have hb5 := HB4d.out.trans (hb.mono HB4d.out.size); have hq2 := (HCells.out _ hb5).2; obtain ⟨A5, c5, rfl, -, -⟩ := own_slice ho))
    have HO5 := Lib.hid ho
    have HB5 := Lib.hid hb5
    clear ho hb hb5 hq1 hq2 x0
    have HPw := Lib.hid (HPr.out _ HB5.out)
    go_wp2_with fail
    refine HPw.out.mono ?_
    rintro e w6 ⟨u6, rfl, ho, hb⟩
    obtain ⟨A6, c6, rfl, -, -⟩ := own_slice ho
    have HO6 := Lib.hid ho
    have HB6 := Lib.hid (HB5.out.trans (hb.mono HB5.out.size))
    have HO5b := Lib.hid (below_own HO5.out hb (Nat.le_refl _))
    clear ho hb HPw
    have HSm := Lib.hid (same_votes_is (A := A5) (A' := A6) (c := c5) (c' := c6) (la := np2) (lb := np2) (zs := vtsOf pr) (ys := vtsOf pr) (r := true) HNp2.out HNp2.out (by omega) (sameL_self' _) w6 (has_rows HO5b.out) (has_rows HO6.out))
    go_wp2_with fail
    refine HSm.out.mono ?_
    rintro e w7 ⟨rfl, m7, rfl⟩
    have HB7 := Lib.hid (HB6.out.trans (show Below w.heap.size w6 (w6.drewN m7) from ⟨rfl, rfl, rfl, Nat.le_refl _, fun _ _ => rfl⟩))
    clear HSm
    obtain ⟨w8, hw8⟩ : ∃ y, w6.drewN m7 = y := ⟨_, rfl⟩
    rw [hw8] at HB7 ⊢
    clear hw8
    go_wp2_with fail
    refine (HQ.out _).mono ?_
    rintro e wq ⟨rfl, rfl⟩
    have HCw := Lib.hid (HCd.out _ HB7.out)
    go_wp2_with fail
    refine HCw.out.mono ?_
    rintro e w9 ⟨A9, n9, c9, B9, d9, rfl, hn9, hh, ho, hb⟩
    obtain rfl := hn9.symm
    clear hn9
    have HB9 := Lib.hid (HB7.out.trans (hb.mono HB7.out.size))
    have HH9 := Lib.hid hh
    have HO9 := Lib.hid ho
    clear hh ho hb HCw
    have HCw := Lib.hid (HCo.out _ HB9.out)
    go_wp2_with fail
    refine HCw.out.mono ?_
    rintro e w10 ⟨u10, t10, rfl, ho, ho2, hb⟩
    have HB10 := Lib.hid (HB9.out.trans (hb.mono HB9.out.size))
    have HH10 := Lib.hid (HH9.out.below hb (Nat.le_refl _))
    have HO10 := Lib.hid (below_own HO9.out hb (Nat.le_refl _))
    have HS10 := Lib.hid hb.size
    have HR10 := Lib.hid ho
    have HV10 := Lib.hid ho2
    obtain ⟨Ax, cx, rfl, -, -⟩ := own_slice ho
    obtain ⟨Ay, cy, rfl, -, -⟩ := own_slice ho2
    clear ho ho2 hb HCw
    have HS1 := Lib.hid (same_reqs_is (A := A9) (A' := Ax) (c := c9) (c' := cx) (la := nb) (lb := nb) (zs := batOf cm) (ys := batOf cm) (r := true) HNb.out HNb.out (by omega) (sameL_self' _) w10 (HH10.out.more HS10.out) (has_rows HR10.out))
    have HS2 := Lib.hid (fun m => same_votes_is (A := B9) (A' := Ay) (c := d9) (c' := cy) (la := nv) (lb := nv) (zs := votOf cm) (ys := votOf cm) (r := true) HNv.out HNv.out (by omega) (sameL_self' _) (w10.drewN m) ((has_rows HO10.out).drewN m) ((has_rows HV10.out).drewN m))
    go_wp2_with fail
    refine HS1.out.mono ?_
    rintro e w11 ⟨rfl, m1, rfl⟩
    go_wp2_with fail
    refine (HS2.out _).mono ?_
    rintro e w11 ⟨rfl, m2, rfl⟩
    go_wp2_with fail
    go_ret
    exact ⟨rfl, HB10.out.trans ⟨rfl, rfl, rfl, Nat.le_refl _, fun _ _ => rfl⟩⟩
end Go.Proofs.Ytcebnmhkbhhfiaa
namespace Go.Proofs.Ytcebnmhkbhhfiaa
open Go.RowKit
set_option linter.unusedSimpArgs false

def btS (x : Ac) : List Rq := if x.wh % 5 = 3 then [] else if x.wh % 5 = 4 then x.l.take 3 else [wk14]
/-- What a batch is: where it lies. -/
structure BtPost (w : World) (x : Ac) (A : Option Addr) (n c : Nat) (w' : World) : Prop where
  len : n = (btS x).length
  has : Has w' w'.heap.size A (reqCells (btS x))
  nil : A = none → c = 0
  at_ : ∀ ad, A = some ad → btS x ≠ [] → (x.A = some ad ∧ x.l ≠ []) ∨ w.heap.size ≤ ad.block
  low : Below w.heap.size w w'
theorem BtPost.short {w w' : World} {x : Ac} {A : Option Addr} {n c : Nat} (h : BtPost w x A n c w') : n ≤ 3 := by
  rw [h.len]
  unfold btS
  split
  · simp
  · split
    · rw [List.length_take]; omega
    · simp
set_option maxHeartbeats 2000000 in
theorem batch14_any {w : World} {x : Ac} (hx : Has w w.heap.size x.A (reqCells x.l)) (hlc : x.l.length ≤ x.c) (_ : x.c ≤ maxLen) (hnil : x.A = none → x.c = 0) (hwh : fit x.wh) :
    Calls Try.prog 28 #[.agg #[.int .i64 x.dd, .int .i64 x.ki, .int .i64 x.nd, .int .i64 x.sg, .int .i64 x.wh, .slice x.A x.l.length x.c]] w fun e w' => ∃ A n c, e = .returned (.slice A n c) ∧ BtPost w x A n c w' := by
  obtain ⟨b0, b1⟩ := wf_i64 hwh
  have HW := Lib.hid (fun w => within_any x.wh 5 (by omega) (by omega) b0 b1 w)
  have hk0 : 0 ≤ x.wh % 5 ∧ x.wh % 5 < 5 := ⟨Int.emod_nonneg _ (by omega), Int.emod_lt_of_pos _ (by omega)⟩
  have HX := Lib.hid hx
  have HN := Lib.hid hnil
  obtain ⟨n, hn⟩ : ∃ y, x.l.length = y := ⟨_, rfl⟩
  have HLn := Lib.hid hn
  rw [hn] at hlc ⊢
  obtain ⟨k, hk⟩ : ∃ y, x.wh % 5 = y := ⟨_, rfl⟩
  have HK := Lib.hid hk
  rw [hk] at HW hk0
  have HB0 := Lib.hid (fun cs => show Below w.heap.size w (w.alloc (.cells cs 35)) from (Below.refl _ _).alloc (Nat.le_refl _) _)
  have hor : k = 0 ∨ k = 1 ∨ k = 2 ∨ k = 3 ∨ k = 4 := by omega
  clear hx hnil hn hk hk0 b0 b1 hwh
  rcases hor with rfl | rfl | rfl | rfl | rfl
  iterate 3
    · have HE := Lib.hid (show btS x = [wk14] from by unfold btS; rw [HK.out]; rfl)
      go_enter Try.func28, Try.ntmps28
      go_wp2_with fail
      refine (HW.out _).mono ?_
      rintro e wq ⟨rfl, rfl⟩
      go_wp2_with fail
      go_ret
      have hb1 := HB0.out #[.int .i64 x.dd, .int .i64 x.ki, .int .i64 x.nd, .int .i64 x.sg, .int .i64 x.wh, .slice x.A n x.c]
      have hb2 := hb1.alloc hb1.size (.cells #[.int .i64 0, .int .i64 1, .int .i64 0, .int .i64 0, .int .i64 0, .int .i64 0] 71)
      have hk2 := Blk.new1 w (.cells #[.int .i64 x.dd, .int .i64 x.ki, .int .i64 x.nd, .int .i64 x.sg, .int .i64 x.wh, .slice x.A n x.c] 35) 71 #[.int .i64 0, .int .i64 1, .int .i64 0, .int .i64 0, .int .i64 0, .int .i64 0]
      refine ⟨_, _, _, rfl, ⟨by rw [HE.out]; rfl, by rw [HE.out]; exact has_one wk14 hk2, (fun h => by cases h), (fun ad h _ => Or.inr (by injection h with h; rw [← h]; show w.heap.size ≤ w.heap.size + 1; omega)), hb2⟩⟩
  · have HE := Lib.hid (show btS x = [] from by unfold btS; rw [HK.out]; rfl)
    go_enter Try.func28, Try.ntmps28
    go_wp2_with fail
    refine (HW.out _).mono ?_
    rintro e wq ⟨rfl, rfl⟩
    go_wp2_with fail
    go_ret
    refine ⟨_, _, _, rfl, ⟨by rw [HE.out]; rfl, by rw [HE.out]; exact Has.nil _ _ _, fun _ => rfl, (fun ad h => by cases h), HB0.out _⟩⟩
  · have HE := Lib.hid (show btS x = x.l.take 3 from by unfold btS; rw [HK.out]; rfl)
    have hsl := fun (w : World) => slice_head (w := w) x.A (n := n) (c := x.c) (k := min n 3) (by omega)
    go_enter Try.func28, Try.ntmps28
    go_wp2_with fail
    refine (HW.out _).mono ?_
    rintro e wq ⟨rfl, rfl⟩
    go_wp2_with fail
    go_ret
    refine ⟨_, _, _, rfl, ⟨?_, ?_, HN.out, fun ad h hne => Or.inl ⟨h, fun e => hne (by rw [HE.out, e]; rfl)⟩, HB0.out _⟩⟩
    · rw [HE.out, List.length_take, HLn.out]
      omega
    · rw [HE.out]
      have hb := HB0.out #[.int .i64 x.dd, .int .i64 x.ki, .int .i64 x.nd, .int .i64 x.sg, .int .i64 x.wh, .slice x.A n x.c]
      have h1 := (HX.out.below hb (Nat.le_refl _)).more hb.size
      intro j u hj
      rw [reqCells_take, List.getElem?_take] at hj
      split at hj
      · exact h1 j u hj
      · cases hj
end Go.Proofs.Ytcebnmhkbhhfiaa
namespace Go.Proofs.Ytcebnmhkbhhfiaa
open Go.RowKit
set_option linter.unusedSimpArgs false

/-- What an act leaves: both slots the same again. -/
def DoPost (w w' : World) (Y : Nat → Prop) (sb : Nat) (v1 v2 : Value) (pb : Nat) (f : Int) (s : Sx) : Prop :=
  ∃ u1 u2, Sl w' (fun _ => True) sb u1 u2 f s ∧ Ds w' (fun k => Y k ∨ SZ sb u1 u2 k) pb s ∧ (∀ g, SZ sb u1 u2 g → SZ sb v1 v2 g ∨ w.heap.size ≤ g) ∧ Turn (fun k => SZ sb v1 v2 k ∨ k = pb) w w'
/-- Behind the slot's own call. -/
structure Mid (w w6 : World) (Y : Nat → Prop) (sb : Nat) (v1 v2 u1 u2 : Value) (pb : Nat) (f : Int) (s : Sx) (vb : Value) (nb : Nat) : Prop where
  sl : Sl w6 (fun k => vb.ownBlock ≠ some k) sb u1 u2 f s
  ds : Ds w6 (fun k => (Y k ∨ SZ sb u1 u2 k) ∨ vb.ownBlock = some k) pb s
  row : ∃ ys : List Rq, w6.ownsRow w.heap.size 71 6 vb nb (reqCells ys)
  zn : ∀ g, SZ sb u1 u2 g → SZ sb v1 v2 g ∨ w.heap.size ≤ g
  tn : Turn (fun k => SZ sb v1 v2 k ∨ k = pb) w w6
/-- Ahead of it: the slot tells s, the document's one sd. -/
structure Pr (w w5 : World) (Y : Nat → Prop) (sb : Nat) (v1 v2 : Value) (pb : Nat) (f : Int) (s sd : Sx) (vb : Value) (nb ab : Nat) (x : Ac) : Prop where
  sl : Sl w5 (fun k => vb.ownBlock ≠ some k) sb v1 v2 f s
  ds : Ds w5 (fun k => Y k ∨ vb.ownBlock = some k) pb sd
  row : w5.ownsRow w.heap.size 71 6 vb nb (reqCells (btS x))
  tn : Turn (fun k => SZ sb v1 v2 k ∨ k = pb) w w5
  box : Blk w5 ab 35 #[.int .i64 x.dd, .int .i64 x.ki, .int .i64 x.nd, .int .i64 x.sg, .int .i64 x.wh, .slice x.A x.l.length x.c]
  ysz : ∀ k, SZ sb v1 v2 k → Y k
  yp : Y pb
  ylt : ∀ k, Y k → k < w.heap.size
  arg : Has w w.heap.size x.A (reqCells x.l)
  aoff : ∀ ad, x.A = some ad → x.l ≠ [] → ¬ Y ad.block
section
variable {w w5 w6 w7 : World} {Y : Nat → Prop} {sb pb nb ab : Nat} {v1 v2 u1 u2 vb : Value} {f : Int} {s sd s' : Sx} {x : Ac}
theorem Pr.below (h : Pr w w5 Y sb v1 v2 pb f s sd vb nb ab x) (hb : Below w5.heap.size w5 w6) : Pr w w6 Y sb v1 v2 pb f s sd vb nb ab x :=
  ⟨h.sl.below hb, h.ds.below hb, below_own h.row hb (Nat.le_refl _), h.tn.trans (Turn.of_below hb), h.box.below hb h.box.lt, h.ysz, h.yp, h.ylt, h.arg, h.aoff⟩
theorem Pr.arg5 (h : Pr w w5 Y sb v1 v2 pb f s sd vb nb ab x) : Has w5 w5.heap.size x.A (reqCells x.l) :=
  (has_apart h.arg h.tn (fun ad ha hl hz => h.aoff ad ha (req_ne hl) (hz.elim (h.ysz _) (fun e => e ▸ h.yp)))).more h.tn.size
theorem req_block {w : World} {B : Nat} {A : Option Addr} {l : List Rq} (h : Has w B A (reqCells l)) {ad : Addr} (ha : A = some ad) (hl : l ≠ []) : ad.block < B := by
  cases l with
  | nil => exact absurd rfl hl
  | cons y r =>
    obtain ⟨ad', e, hb, _⟩ := h 0 _ (show (reqCells (y :: r))[0]? = some (.int .i64 y.cl) from rfl)
    rw [ha] at e
    injection e with e
    rw [e]
    exact hb
/-- The batch that the document keeps. -/
theorem Pr.bat (h : Pr w w5 Y sb v1 v2 pb f s sd vb nb ab x) {A : Option Addr} {n c : Nat} (hb : BtPost w5 x A n c w6) : DBat w6 (fun k => Y k ∨ vb.ownBlock = some k) A c (btS x) := by
  refine ⟨hb.has, by have := hb.short; have := hb.len; omega, hb.nil, fun ad ha hl hy => ?_⟩
  rcases hb.at_ ad ha hl with ⟨h1, h2⟩ | h1
  · rcases hy with hy | hy
    · exact h.aoff ad h1 h2 hy
    · have := (h.row.lt _ hy).1
      have := req_block h.arg h1 h2
      omega
  · rcases hy with hy | hy
    · have := h.ylt _ hy; have := h.tn.size; omega
    · have := (h.row.lt _ hy).2; omega
/-- The document's slot has changed. -/
theorem Pr.doc (h : Pr w w5 Y sb v1 v2 pb f s sd vb nb ab x) (ht : Turn (fun k => k = pb) w5 w6) (hd : Ds w6 (fun k => Y k ∨ vb.ownBlock = some k) pb s') (hp : ¬ SZ sb v1 v2 pb) : Pr w w6 Y sb v1 v2 pb f s s' vb nb ab x := by
  obtain ⟨A, c, r1, r2, M1, M2, hb, _⟩ := h.ds.mem
  have hv : vb.ownBlock ≠ some pb := own_blk_ne h.row hb (by decide)
  refine ⟨h.sl.kept ht (fun k hk e => hp (e ▸ hk)) (fun u b hu g hg e => hu.off hb (by decide) (e ▸ hg)), hd, ht.own h.row (fun g hg e => hv (e ▸ hg)), h.tn.trans (ht.mono (fun _ _ e => Or.inr e)), ht.blk h.box (h.box.ne_ hb (by decide)), h.ysz, h.yp, h.ylt, h.arg, h.aoff⟩
theorem Pr.off (h : Pr w w5 Y sb v1 v2 pb f s sd vb nb ab x) : ¬ SZ sb v1 v2 pb := by
  obtain ⟨A, c, r1, r2, M1, M2, hb, _⟩ := h.ds.mem
  exact h.sl.off hb (by decide) (by decide)
/-- The slot's own call. -/
theorem Pr.mid (h : Pr w w5 Y sb v1 v2 pb f s s' vb nb ab x) (hp : SlPost w5 (fun k => vb.ownBlock ≠ some k) sb v1 v2 f s' w6) : ∃ u1 u2, Mid w w6 Y sb v1 v2 u1 u2 pb f s' vb nb := by
  have hrow := hp.farRow h.sl h.row (by decide) (by decide)
  obtain ⟨u1, u2, k1, k2, k3⟩ := hp
  have hlt : ∀ g, vb.ownBlock = some g → g < w5.heap.size := fun g hg => (h.row.lt g hg).2
  refine ⟨u1, u2, k1.mono (fun g hg e => hg.elim (fun hg => hg e) (fun hg => by have := hlt g e; omega)), ?_, ⟨_, hrow⟩, fun g hg => ?_, h.tn.trans (k3.mono (fun _ _ hk => Or.inl hk))⟩
  · obtain ⟨A, c, r1, r2, M1, M2, a, b, d, e⟩ := h.ds.mem
    have hm : ∀ k, k < w5.heap.size → ((Y k ∨ SZ sb u1 u2 k) ∨ vb.ownBlock = some k) → (Y k ∨ vb.ownBlock = some k) := fun k hk hy => by
      rcases hy with (hy | hy) | hy
      · exact Or.inl hy
      · rcases k2 k hy with hy | hy
        · exact Or.inl (h.ysz _ hy)
        · omega
      · exact Or.inr hy
    have b5 := b.mono hm
    have d5 := d.mono hm
    have e5 := e.mono hm
    have ht2 : Turn (fun k => (Y k ∨ SZ sb u1 u2 k) ∨ vb.ownBlock = some k) w5 w6 := k3.mono (fun _ _ hk => Or.inl (Or.inl (h.ysz _ hk)))
    exact ⟨A, c, r1, r2, M1, M2, k3.blk a h.off, b5.kept ht2, d5.kept ht2, e5.kept ht2⟩
  · rcases k2 g hg with k2 | k2
    · exact Or.inl k2
    · exact Or.inr (Nat.le_trans h.tn.size k2)
theorem Mid.below (h : Mid w w6 Y sb v1 v2 u1 u2 pb f s vb nb) (hb : Below w6.heap.size w6 w7) : Mid w w7 Y sb v1 v2 u1 u2 pb f s vb nb := by
  obtain ⟨ys, hr⟩ := h.row
  exact ⟨h.sl.below hb, h.ds.below hb, ⟨ys, below_own hr hb (Nat.le_refl _)⟩, h.zn, h.tn.trans (Turn.of_below hb)⟩
/-- A store into the caller's own batch. -/
theorem Mid.put (h : Mid w w6 Y sb v1 v2 u1 u2 pb f s vb nb) (ht : Turn (fun k => vb.ownBlock = some k) w6 w7) {ys : List Rq} (hr : w7.ownsRow w.heap.size 71 6 vb nb (reqCells ys)) : Mid w w7 Y sb v1 v2 u1 u2 pb f s vb nb := by
  obtain ⟨zs, hz⟩ := h.row
  obtain ⟨A, c, r1, r2, M1, M2, a, b, d, e⟩ := h.ds.mem
  have hv : vb.ownBlock ≠ some pb := own_blk_ne hz a (by decide)
  have hsz : ∀ k, SZ sb u1 u2 k → ¬ vb.ownBlock = some k := fun k hk e => by
    rcases hz.2 with ⟨rfl, _⟩ | ⟨g', cap, cur, rfl, _, hh, _⟩
    · cases e
    · have : g' = k := Option.some.inj e
      subst this
      exact h.sl.off (show Blk w6 g' _ cur from hh) (by decide) (by decide) hk
  have ht2 : Turn (fun k => (Y k ∨ SZ sb u1 u2 k) ∨ vb.ownBlock = some k) w6 w7 := ht.mono (fun _ _ hk => Or.inr hk)
  have hz2 : ∀ {u : Value} {b : List Rq}, Bat w6 (fun k => vb.ownBlock ≠ some k) u b → ∀ g, u.ownBlock = some g → ¬ vb.ownBlock = some g := fun hu g hg e => hu.zone g hg e
  refine ⟨?_, ⟨A, c, r1, r2, M1, M2, ht.blk a hv, b.kept ht2, d.kept ht2, e.kept ht2⟩, ⟨ys, hr⟩, h.zn, ⟨ht.os.trans h.tn.os, ht.tape.trans h.tn.tape, ht.output.trans h.tn.output, Nat.le_trans h.tn.size ht.size, fun k hk hn => (ht.block k (Nat.lt_of_lt_of_le hk h.tn.size) (fun e => by have := (hz.lt k e).1; omega)).trans (h.tn.block k hk hn)⟩⟩
  obtain ⟨cv, N1, N2, p1, p2, p3, p4⟩ := h.sl.mem
  have hR : ∀ {u : Value} {L : List Vo} {M : List Ve}, Row w6 (fun k => vb.ownBlock ≠ some k) u L M → (∀ g, u.ownBlock = some g → ¬ vb.ownBlock = some g) → Row w7 (fun k => vb.ownBlock ≠ some k) u L M := fun hu hne =>
    ⟨hu.is, ht.own hu.own hne, fun y hy => (hu.all y hy).kept ht (hz2 (hu.all y hy))⟩
  exact ⟨h.sl.f1, h.sl.f4, h.sl.n1, h.sl.n2, h.sl.ne, cv, N1, N2, ht.blk p1 (hsz _ (Or.inl rfl)), p2.kept ht (hz2 p2), hR p3 (fun g hg => hsz g (Or.inr (Or.inl hg))), hR p4 (fun g hg => hsz g (Or.inr (Or.inr hg)))⟩
theorem Mid.done (h : Mid w w6 Y sb v1 v2 u1 u2 pb f s vb nb) : DoPost w w6 Y sb v1 v2 pb f s :=
  ⟨u1, u2, h.sl.mono (fun _ _ => trivial), h.ds.mono (fun _ _ hy => Or.inl hy), h.zn, h.tn⟩
end
/-- What an act makes of a slot. -/
def actS (n : Nat) (x : Ac) (s : Sx) : Sx := if x.dd % 10 = 0 then s.pre (btS x) else if x.dd % 10 < 9 then (s.vote x.ki x.nd x.sg (btS x)).2 else Sx.new n
end Go.Proofs.Ytcebnmhkbhhfiaa
namespace Go.Proofs.Ytcebnmhkbhhfiaa
open Go.RowKit
set_option linter.unusedSimpArgs false

theorem reqCells_set {M : List Rq} {k : Nat} (h : k < M.length) (x : Rq) : (reqCells M).take (k * 6) ++ x.cells ++ (reqCells M).drop (k * 6 + 6) = reqCells (M.set k x) := by
  induction M generalizing k with
  | nil => simp at h
  | cons y M ih =>
    cases k with
    | zero => rfl
    | succ k =>
      have := ih (k := k) (by simpa using h)
      show (y.cells ++ reqCells M).take ((k + 1) * 6) ++ _ ++ (y.cells ++ reqCells M).drop ((k + 1) * 6 + 6) = y.cells ++ reqCells (M.set k x)
      rw [← this, show (k + 1) * 6 = k * 6 + 6 by omega]
      rfl
def r99 : Rq := ⟨0, 99, 0, 0, 0, 0⟩
section
variable {w w6 : World} {Y : Nat → Prop} {sb pb nb : Nat} {v1 v2 u1 u2 : Value} {f : Int} {s : Sx} {Ab : Option Addr} {cb : Nat}
/-- A request of the caller's own batch, and what a store makes of it. -/
theorem Mid.cells (h : Mid w w6 Y sb v1 v2 u1 u2 pb f s (.slice Ab nb cb) nb) {k : Nat} (hk : k < nb) : ∃ g e0 e1 e2 e3 e4 e5, Ab = some ⟨g, 0, none⟩ ∧ w6.cell? ⟨g, k * 6, none⟩ = some e0 ∧ w6.cell? ⟨g, k * 6 + 1, none⟩ = some e1 ∧ w6.cell? ⟨g, k * 6 + 2, none⟩ = some e2 ∧ w6.cell? ⟨g, k * 6 + 3, none⟩ = some e3 ∧ w6.cell? ⟨g, k * 6 + 4, none⟩ = some e4 ∧ w6.cell? ⟨g, k * 6 + 5, none⟩ = some e5 ∧ (∀ j, w6.frozen? ⟨g, j, none⟩ = false) ∧
    Mid w ((((((w6.setCell ⟨g, k * 6, none⟩ (.int .i64 0)).setCell ⟨g, k * 6 + 1, none⟩ (.int .i64 99)).setCell ⟨g, k * 6 + 2, none⟩ (.int .i64 0)).setCell ⟨g, k * 6 + 3, none⟩ (.int .i64 0)).setCell ⟨g, k * 6 + 4, none⟩ (.int .i64 0)).setCell ⟨g, k * 6 + 5, none⟩ (.int .i64 0)) Y sb v1 v2 u1 u2 pb f s (.slice Ab nb cb) nb := by
  obtain ⟨ys, hr⟩ := h.row
  have hl : ys.length = nb := by have := hr.1; rw [reqCells_len] at this; omega
  obtain ⟨g, cap, hv, _, _⟩ := hr.form (by omega)
  injection hv with hA _ _
  subst hA
  obtain ⟨ad, e, _, c0, c1, c2, c3, c4, c5⟩ := (has_rows hr).req (show k < ys.length by omega)
  cases e
  rw [addr_at] at c0 c1 c2 c3 c4 c5
  have h1 := own_cells hr (o := k * 6) (vs := r99.cells) (by show k * 6 + 6 ≤ nb * 6; omega)
  have h2 := reqCells_set (M := ys) (k := k) (by omega) r99
  have h3 : r99.cells.length = 6 := rfl
  rw [h3, h2] at h1
  refine ⟨g, _, _, _, _, _, _, rfl, c0, c1, c2, c3, c4, c5, hr.frozenAt, h.put ?_ h1⟩
  exact ((((((Turn.refl (fun j => (Value.slice (some ⟨g, 0, none⟩) nb cb).ownBlock = some j) w6).set_ ⟨g, k * 6, none⟩ _ rfl).set_ ⟨g, k * 6 + 1, none⟩ _ rfl).set_ ⟨g, k * 6 + 2, none⟩ _ rfl).set_ ⟨g, k * 6 + 3, none⟩ _ rfl).set_ ⟨g, k * 6 + 4, none⟩ _ rfl).set_ ⟨g, k * 6 + 5, none⟩ _ rfl
end
/-- What an act is asked with. -/
structure DoIn (w : World) (Y : Nat → Prop) (sb : Nat) (v1 v2 : Value) (pb : Nat) (f : Int) (s : Sx) (n0 : Nat) (x : Ac) : Prop where
  sl : Sl w (fun _ => True) sb v1 v2 f s
  ds : Ds w Y pb s
  ysz : ∀ k, SZ sb v1 v2 k → Y k
  yp : Y pb
  ylt : ∀ k, Y k → k < w.heap.size
  arg : Has w w.heap.size x.A (reqCells x.l)
  aoff : ∀ ad, x.A = some ad → x.l ≠ [] → ¬ Y ad.block
  le : x.l.length ≤ x.c
  most : x.c ≤ maxLen
  nil : x.A = none → x.c = 0
  dd : fit x.dd
  ki : fit x.ki
  nd : fit x.nd
  sg : fit x.sg
  wh : fit x.wh
  n0 : s.P.length = n0
section
variable {w : World} {Y : Nat → Prop} {sb pb n0 : Nat} {v1 v2 : Value} {f : Int} {s : Sx} {x : Ac}
theorem DoIn.start (h : DoIn w Y sb v1 v2 pb f s n0 x) {w3 : World} {vb : Value} {nb b0 ab : Nat} (hb : w.heap.size ≤ b0) (hrow : w3.ownsRow b0 71 6 vb nb (reqCells (btS x))) (hlow : Below w.heap.size w w3) (hbx : Blk w3 ab 35 #[.int .i64 x.dd, .int .i64 x.ki, .int .i64 x.nd, .int .i64 x.sg, .int .i64 x.wh, .slice x.A x.l.length x.c]) : Pr w w3 Y sb v1 v2 pb f s s vb nb ab x := by
  have hv : ∀ k, k < w.heap.size → vb.ownBlock ≠ some k := fun k hk e => by have := (hrow.lt k e).1; omega
  refine ⟨(h.sl.low.mono hv).below hlow, (h.ds.mono (fun k hk hy => hy.elim id (fun e => absurd e (hv k hk)))).below hlow, own_base hrow hb, Turn.of_below hlow, hbx, h.ysz, h.yp, h.ylt, h.arg, h.aoff⟩
theorem dvs_off (n k : Nat) : dvs k (List.replicate n offV) = [] := by
  induction n generalizing k with
  | zero => rfl
  | succ n ih => rw [List.replicate_succ, dvs_cons, if_neg (by rintro e; cases e), ih]
set_option maxRecDepth 100000 in
set_option maxHeartbeats 4000000 in
theorem do_pre1 (h : DoIn w Y sb v1 v2 pb f s n0 x) (hk : x.dd % 10 = 0) (hc : s.ch = none) :
    Calls Try.prog 8 #[.pointer (some ⟨sb, 0, none⟩), .pointer (some ⟨pb, 0, none⟩), .int .i64 f, .agg #[.int .i64 x.dd, .int .i64 x.ki, .int .i64 x.nd, .int .i64 x.sg, .int .i64 x.wh, .slice x.A x.l.length x.c]] w fun e w' => e = .returned (.bool true) ∧ DoPost w w' Y sb v1 v2 pb f (actS n0 x s) := by
  obtain ⟨b0, b1⟩ := wf_i64 h.dd
  have HW10 := Lib.hid (fun w => within_any x.dd 10 (by omega) (by omega) b0 b1 w)
  have HB1 := Lib.hid (show Below w.heap.size w (w.alloc (.cells #[.int .i64 x.dd, .int .i64 x.ki, .int .i64 x.nd, .int .i64 x.sg, .int .i64 x.wh, .slice x.A x.l.length x.c] 35)) from (Below.refl _ _).alloc (Nat.le_refl _) _)
  have HBx := Lib.hid (Blk.new w 35 #[.int .i64 x.dd, .int .i64 x.ki, .int .i64 x.nd, .int .i64 x.sg, .int .i64 x.wh, .slice x.A x.l.length x.c])
  have HBat := Lib.hid (fun (wz : World) (hx : Has wz wz.heap.size x.A (reqCells x.l)) => batch14_any hx h.le h.most h.nil h.wh)
  have HBt1 := Lib.hid (HBat.out _ ((h.arg.below HB1.out (Nat.le_refl _)).more HB1.out.size))
  have HIn := Lib.hid h
  obtain ⟨w1, hw1⟩ : ∃ w1, w.alloc (.cells #[.int .i64 x.dd, .int .i64 x.ki, .int .i64 x.nd, .int .i64 x.sg, .int .i64 x.wh, .slice x.A x.l.length x.c] 35) = w1 := ⟨_, rfl⟩
  obtain ⟨ab, hab⟩ : ∃ y, w.heap.size = y := ⟨_, rfl⟩
  have HAb := Lib.hid hab
  obtain ⟨xl, hxl⟩ : ∃ y, x.l.length = y := ⟨_, rfl⟩
  have HXl := Lib.hid hxl
  have hbx0 := HBx.out.cell 0
  have hbx1 := HBx.out.cell 1
  have hbx2 := HBx.out.cell 2
  have hbx3 := HBx.out.cell 3
  have hbx4 := HBx.out.cell 4
  have hbx5 := HBx.out.cell 5
  simp only [List.getElem?_toArray, List.getElem?_cons_zero, List.getElem?_cons_succ] at hbx0 hbx1 hbx2 hbx3 hbx4 hbx5
  rw [hk] at HW10
  rw [hw1] at HB1 HBt1 HBx hbx0 hbx1 hbx2 hbx3 hbx4 hbx5
  rw [hab] at HBx hbx0 hbx1 hbx2 hbx3 hbx4 hbx5
  rw [hxl] at HBt1 HBat hbx5 hw1 ⊢
  clear h b0 b1 hxl
  go_enter Try.func8, Try.ntmps8
  go_wp2_with fail
  refine HBt1.out.mono ?_
  rintro e w2 ⟨A2, n, c2, rfl, hP2⟩
  have HP2 := Lib.hid hP2
  clear hw1 hab hP2 hbx0 hbx1 hbx2 hbx3 hbx4 hbx5
  have hn3 : n ≤ 3 := HP2.out.short
  go_wp2_with fail
  refine (mcopy_reqs A2 c2 n w2.heap.size (btS x) w2 HP2.out.len.symm (by omega) HP2.out.has HP2.out.nil).mono ?_
  rintro e w3 ⟨vb, rfl, ho3, hb3⟩
  have hlow3 : Below w.heap.size w w3 := (HB1.out.trans (HP2.out.low.mono HB1.out.size)).trans (hb3.mono (Nat.le_trans HB1.out.size HP2.out.low.size))
  have HPr := Lib.hid (HIn.out.start (Nat.le_trans HB1.out.size HP2.out.low.size) ho3 hlow3 ((HBx.out.below HP2.out.low HBx.out.lt).below hb3 (Nat.lt_of_lt_of_le HBx.out.lt HP2.out.low.size)))
  obtain ⟨Ab, cb, rfl, -, -⟩ := own_slice ho3
  clear ho3 hb3 hlow3 HP2 HBt1 HB1 HBx
  have HAct := Lib.hid (show actS n0 x s = s.pre (btS x) from by unfold actS; rw [if_pos hk])
  have HSp := Lib.hid (show s.pre (btS x) = ⟨some (btS x), s.P, s.C⟩ from by unfold Sx.pre; rw [hc]; rfl)
  have HCh := Lib.hid (show (!s.ch.isSome) = true from by rw [hc]; rfl)
  have hlen := (show (btS x).length = n from by have := HPr.out.row.1; rw [reqCells_len] at this; omega)
  have HLn := Lib.hid hlen
  obtain ⟨A0, c0, r1, r2, M1, M2, p1, p2, p3, p4⟩ := HPr.out.ds.mem
  have e0 := p1.cell 0
  have HMem := Lib.hid (And.intro p1 (And.intro p3 p4))
  simp only [List.getElem?_toArray, List.getElem?_cons_zero, List.getElem?_cons_succ, hc, Option.isSome_none] at e0
  clear p1 p2 p3 p4 hk hlen
  have d0 := HPr.out.box.cell 0
  have d1 := HPr.out.box.cell 1
  have d2 := HPr.out.box.cell 2
  have d3 := HPr.out.box.cell 3
  have d4 := HPr.out.box.cell 4
  have d5 := HPr.out.box.cell 5
  simp only [List.getElem?_toArray, List.getElem?_cons_zero, List.getElem?_cons_succ] at d0 d1 d2 d3 d4 d5
  rw [HXl.out] at d5
  go_wp2_with fail
  refine (HW10.out _).mono ?_
  rintro e wq ⟨rfl, rfl⟩
  have HBw := Lib.hid (HBat.out _ HPr.out.arg5)
  go_wp2_with fail
  refine HBw.out.mono ?_
  rintro e w4 ⟨A4, n4, c4, rfl, hP4⟩
  have HP4 := Lib.hid hP4
  have HPr4 := Lib.hid (HPr.out.below hP4.low)
  have HDb := Lib.hid (HPr.out.bat hP4)
  have kp := HMem.out.1.below hP4.low HMem.out.1.lt
  have HKp := Lib.hid kp
  have g0 := kp.cell 0
  have g1 := kp.cell 1
  have q0 := kp.frozen 0
  have q1 := kp.frozen 1
  simp only [List.getElem?_toArray, List.getElem?_cons_zero, List.getElem?_cons_succ, hc, Option.isSome_none] at g0 g1
  have HNew := Lib.hid (show Pr w ((w4.setCell ⟨pb, 0, none⟩ (.bool true)).setCell ⟨pb, 1, none⟩ (.slice A4 n4 c4)) Y sb v1 v2 pb f s (s.pre (btS x)) (.slice Ab n cb) n ab x from by
    have ht : Turn (fun k => k = pb) w4 ((w4.setCell ⟨pb, 0, none⟩ (.bool true)).setCell ⟨pb, 1, none⟩ (.slice A4 n4 c4)) := ((Turn.refl (fun k => k = pb) w4).set_ ⟨pb, 0, none⟩ _ rfl).set_ ⟨pb, 1, none⟩ _ rfl
    have ht2 : Turn (fun k => Y k ∨ (Value.slice Ab n cb).ownBlock = some k) w4 ((w4.setCell ⟨pb, 0, none⟩ (.bool true)).setCell ⟨pb, 1, none⟩ (.slice A4 n4 c4)) := ht.mono (fun _ _ e => Or.inl (e ▸ HIn.out.yp))
    refine HPr4.out.doc ht ?_ HPr4.out.off
    rw [HSp.out]
    obtain ⟨A0', c0', s1, s2, N1, N2, t1, t2, t3, t4⟩ := HPr4.out.ds.mem
    refine ⟨A4, c4, s1, s2, N1, N2, ?_, HDb.out.kept ht2, t3.kept ht2, t4.kept ht2⟩
    have h9 := (t1.set_ 0 (.bool true)).set_ 1 (.slice A4 n4 c4)
    rw [HP4.out.len] at h9 ⊢
    exact h9)
  clear hP4 kp d0 d1 d2 d3 d4 d5 e0 HBw HMem
  go_wp2_with fail
  obtain ⟨w5, hw5⟩ : ∃ y, (w4.setCell ⟨pb, 0, none⟩ (.bool true)).setCell ⟨pb, 1, none⟩ (.slice A4 n4 c4) = y := ⟨_, rfl⟩
  rw [hw5] at HNew ⊢
  have HPr2 := HNew
  clear hw5 g0 g1 q0 q1 HPr4 HKp
  have HPc := Lib.hid (spre_any HPr2.out.sl (c := cb) (has_rows HPr2.out.row) HLn.out (by omega))
  refine HPc.out.mono ?_
  rintro e w6 ⟨rfl, hp⟩
  rw [HCh.out]
  obtain ⟨u1, u2, hm⟩ := HPr2.out.mid hp
  have HM := Lib.hid (show Mid w w6 Y sb v1 v2 u1 u2 pb f (actS n0 x s) (.slice Ab n cb) n from by rw [HAct.out]; exact hm)
  clear hp hm HPc
  go_wp2_with fail
  go_loopw [15, 112] (fun _ y wr => ∃ (k : Nat), y = .int .i64 k ∧ k ≤ n ∧ Hid (Mid w wr Y sb v1 v2 u1 u2 pb f (actS n0 x s) (.slice Ab n cb) n)) (fun _ y _ => n - (intOf y).toNat)
  case atStart => exact ⟨0, rfl, Nat.zero_le _, HM⟩
  case round =>
    clear HM
    obtain ⟨k, rfl, hk, HM⟩ := hrel
    by_cases hlt : k < n
    · obtain ⟨g, e0, e1, e2, e3, e4, e5, rfl, c0, c1, c2, c3, c4, c5, hfr, hm⟩ := HM.out.cells hlt
      have f0 := hfr (k * 6)
      have f1 := hfr (k * 6 + 1)
      have f2 := hfr (k * 6 + 2)
      have f3 := hfr (k * 6 + 3)
      have f4 := hfr (k * 6 + 4)
      have f5 := hfr (k * 6 + 5)
      have HM2 := Lib.hid hm
      clear hfr hm
      go_wp2_with fail
      go_roundw
      case rel => exact ⟨k + 1, by go_num, by omega, HM2⟩
      case measure => simp [intOf]; omega
    · obtain rfl : k = n := by omega
      have HRt := Lib.hid (right14_any HM.out.sl HM.out.ds)
      go_wp2_with fail
      refine HRt.out.mono ?_
      rintro e w9 ⟨rfl, hb9⟩
      have HM9 := Lib.hid (HM.out.below hb9).done
      clear hb9
      go_wp2_with fail
      go_ret
      exact ⟨rfl, HM9.out⟩
set_option maxRecDepth 100000 in
set_option maxHeartbeats 4000000 in
theorem do_pre2 (h : DoIn w Y sb v1 v2 pb f s n0 x) {bb : List Rq} (hk : x.dd % 10 = 0) (hc : s.ch = some bb) :
    Calls Try.prog 8 #[.pointer (some ⟨sb, 0, none⟩), .pointer (some ⟨pb, 0, none⟩), .int .i64 f, .agg #[.int .i64 x.dd, .int .i64 x.ki, .int .i64 x.nd, .int .i64 x.sg, .int .i64 x.wh, .slice x.A x.l.length x.c]] w fun e w' => e = .returned (.bool true) ∧ DoPost w w' Y sb v1 v2 pb f (actS n0 x s) := by
  obtain ⟨b0, b1⟩ := wf_i64 h.dd
  have HW10 := Lib.hid (fun w => within_any x.dd 10 (by omega) (by omega) b0 b1 w)
  have HB1 := Lib.hid (show Below w.heap.size w (w.alloc (.cells #[.int .i64 x.dd, .int .i64 x.ki, .int .i64 x.nd, .int .i64 x.sg, .int .i64 x.wh, .slice x.A x.l.length x.c] 35)) from (Below.refl _ _).alloc (Nat.le_refl _) _)
  have HBx := Lib.hid (Blk.new w 35 #[.int .i64 x.dd, .int .i64 x.ki, .int .i64 x.nd, .int .i64 x.sg, .int .i64 x.wh, .slice x.A x.l.length x.c])
  have HBat := Lib.hid (fun (wz : World) (hx : Has wz wz.heap.size x.A (reqCells x.l)) => batch14_any hx h.le h.most h.nil h.wh)
  have HBt1 := Lib.hid (HBat.out _ ((h.arg.below HB1.out (Nat.le_refl _)).more HB1.out.size))
  have HIn := Lib.hid h
  obtain ⟨w1, hw1⟩ : ∃ w1, w.alloc (.cells #[.int .i64 x.dd, .int .i64 x.ki, .int .i64 x.nd, .int .i64 x.sg, .int .i64 x.wh, .slice x.A x.l.length x.c] 35) = w1 := ⟨_, rfl⟩
  obtain ⟨ab, hab⟩ : ∃ y, w.heap.size = y := ⟨_, rfl⟩
  have HAb := Lib.hid hab
  obtain ⟨xl, hxl⟩ : ∃ y, x.l.length = y := ⟨_, rfl⟩
  have HXl := Lib.hid hxl
  have hbx0 := HBx.out.cell 0
  have hbx1 := HBx.out.cell 1
  have hbx2 := HBx.out.cell 2
  have hbx3 := HBx.out.cell 3
  have hbx4 := HBx.out.cell 4
  have hbx5 := HBx.out.cell 5
  simp only [List.getElem?_toArray, List.getElem?_cons_zero, List.getElem?_cons_succ] at hbx0 hbx1 hbx2 hbx3 hbx4 hbx5
  rw [hk] at HW10
  rw [hw1] at HB1 HBt1 HBx hbx0 hbx1 hbx2 hbx3 hbx4 hbx5
  rw [hab] at HBx hbx0 hbx1 hbx2 hbx3 hbx4 hbx5
  rw [hxl] at HBt1 HBat hbx5 hw1 ⊢
  clear h b0 b1 hxl
  go_enter Try.func8, Try.ntmps8
  go_wp2_with fail
  refine HBt1.out.mono ?_
  rintro e w2 ⟨A2, n, c2, rfl, hP2⟩
  have HP2 := Lib.hid hP2
  clear hw1 hab hP2 hbx0 hbx1 hbx2 hbx3 hbx4 hbx5
  have hn3 : n ≤ 3 := HP2.out.short
  go_wp2_with fail
  refine (mcopy_reqs A2 c2 n w2.heap.size (btS x) w2 HP2.out.len.symm (by omega) HP2.out.has HP2.out.nil).mono ?_
  rintro e w3 ⟨vb, rfl, ho3, hb3⟩
  have hlow3 : Below w.heap.size w w3 := (HB1.out.trans (HP2.out.low.mono HB1.out.size)).trans (hb3.mono (Nat.le_trans HB1.out.size HP2.out.low.size))
  have HPr := Lib.hid (HIn.out.start (Nat.le_trans HB1.out.size HP2.out.low.size) ho3 hlow3 ((HBx.out.below HP2.out.low HBx.out.lt).below hb3 (Nat.lt_of_lt_of_le HBx.out.lt HP2.out.low.size)))
  obtain ⟨Ab, cb, rfl, -, -⟩ := own_slice ho3
  clear ho3 hb3 hlow3 HP2 HBt1 HB1 HBx
  have HAct := Lib.hid (show actS n0 x s = s.pre (btS x) from by unfold actS; rw [if_pos hk])
  have HSp := Lib.hid (show s.pre (btS x) = s from by unfold Sx.pre; rw [hc]; rfl)
  have HCh := Lib.hid (show (!s.ch.isSome) = false from by rw [hc]; rfl)
  have hlen := (show (btS x).length = n from by have := HPr.out.row.1; rw [reqCells_len] at this; omega)
  have HLn := Lib.hid hlen
  obtain ⟨A0, c0, r1, r2, M1, M2, p1, p2, p3, p4⟩ := HPr.out.ds.mem
  have e0 := p1.cell 0
  simp only [List.getElem?_toArray, List.getElem?_cons_zero, List.getElem?_cons_succ, hc, Option.isSome_some] at e0
  clear p1 p2 p3 p4 hk hlen
  have d0 := HPr.out.box.cell 0
  have d1 := HPr.out.box.cell 1
  have d2 := HPr.out.box.cell 2
  have d3 := HPr.out.box.cell 3
  have d4 := HPr.out.box.cell 4
  have d5 := HPr.out.box.cell 5
  simp only [List.getElem?_toArray, List.getElem?_cons_zero, List.getElem?_cons_succ] at d0 d1 d2 d3 d4 d5
  rw [HXl.out] at d5
  go_wp2_with fail
  refine (HW10.out _).mono ?_
  rintro e wq ⟨rfl, rfl⟩
  have HPr2 := Lib.hid (show Pr w w3 Y sb v1 v2 pb f s (s.pre (btS x)) (.slice Ab n cb) n ab x from by rw [HSp.out]; exact HPr.out)
  have HPc := Lib.hid (spre_any HPr2.out.sl (c := cb) (has_rows HPr2.out.row) HLn.out (by omega))
  go_wp2_with fail
  refine HPc.out.mono ?_
  rintro e w6 ⟨rfl, hp⟩
  rw [HCh.out]
  obtain ⟨u1, u2, hm⟩ := HPr2.out.mid hp
  have HM := Lib.hid (show Mid w w6 Y sb v1 v2 u1 u2 pb f (actS n0 x s) (.slice Ab n cb) n from by rw [HAct.out]; exact hm)
  clear hp hm HPc
  go_wp2_with fail
  go_loopw [15, 112] (fun _ y wr => ∃ (k : Nat), y = .int .i64 k ∧ k ≤ n ∧ Hid (Mid w wr Y sb v1 v2 u1 u2 pb f (actS n0 x s) (.slice Ab n cb) n)) (fun _ y _ => n - (intOf y).toNat)
  case atStart => exact ⟨0, rfl, Nat.zero_le _, HM⟩
  case round =>
    clear HM
    obtain ⟨k, rfl, hk, HM⟩ := hrel
    by_cases hlt : k < n
    · obtain ⟨g, e0, e1, e2, e3, e4, e5, rfl, c0, c1, c2, c3, c4, c5, hfr, hm⟩ := HM.out.cells hlt
      have f0 := hfr (k * 6)
      have f1 := hfr (k * 6 + 1)
      have f2 := hfr (k * 6 + 2)
      have f3 := hfr (k * 6 + 3)
      have f4 := hfr (k * 6 + 4)
      have f5 := hfr (k * 6 + 5)
      have HM2 := Lib.hid hm
      clear hfr hm
      go_wp2_with fail
      go_roundw
      case rel => exact ⟨k + 1, by go_num, by omega, HM2⟩
      case measure => simp [intOf]; omega
    · obtain rfl : k = n := by omega
      have HRt := Lib.hid (right14_any HM.out.sl HM.out.ds)
      go_wp2_with fail
      refine HRt.out.mono ?_
      rintro e w9 ⟨rfl, hb9⟩
      have HM9 := Lib.hid (HM.out.below hb9).done
      clear hb9
      go_wp2_with fail
      go_ret
      exact ⟨rfl, HM9.out⟩
set_option maxRecDepth 100000 in
set_option maxHeartbeats 4000000 in
theorem do_reset (h : DoIn w Y sb v1 v2 pb f s n0 x) (hk : x.dd % 10 = 9) :
    Calls Try.prog 8 #[.pointer (some ⟨sb, 0, none⟩), .pointer (some ⟨pb, 0, none⟩), .int .i64 f, .agg #[.int .i64 x.dd, .int .i64 x.ki, .int .i64 x.nd, .int .i64 x.sg, .int .i64 x.wh, .slice x.A x.l.length x.c]] w fun e w' => e = .returned (.bool true) ∧ DoPost w w' Y sb v1 v2 pb f (actS n0 x s) := by
  obtain ⟨b0, b1⟩ := wf_i64 h.dd
  have HW10 := Lib.hid (fun w => within_any x.dd 10 (by omega) (by omega) b0 b1 w)
  have HB1 := Lib.hid (show Below w.heap.size w (w.alloc (.cells #[.int .i64 x.dd, .int .i64 x.ki, .int .i64 x.nd, .int .i64 x.sg, .int .i64 x.wh, .slice x.A x.l.length x.c] 35)) from (Below.refl _ _).alloc (Nat.le_refl _) _)
  have HBx := Lib.hid (Blk.new w 35 #[.int .i64 x.dd, .int .i64 x.ki, .int .i64 x.nd, .int .i64 x.sg, .int .i64 x.wh, .slice x.A x.l.length x.c])
  have HBat := Lib.hid (fun (wz : World) (hx : Has wz wz.heap.size x.A (reqCells x.l)) => batch14_any hx h.le h.most h.nil h.wh)
  have HBt1 := Lib.hid (HBat.out _ ((h.arg.below HB1.out (Nat.le_refl _)).more HB1.out.size))
  have HIn := Lib.hid h
  obtain ⟨w1, hw1⟩ : ∃ w1, w.alloc (.cells #[.int .i64 x.dd, .int .i64 x.ki, .int .i64 x.nd, .int .i64 x.sg, .int .i64 x.wh, .slice x.A x.l.length x.c] 35) = w1 := ⟨_, rfl⟩
  obtain ⟨ab, hab⟩ : ∃ y, w.heap.size = y := ⟨_, rfl⟩
  have HAb := Lib.hid hab
  obtain ⟨xl, hxl⟩ : ∃ y, x.l.length = y := ⟨_, rfl⟩
  have HXl := Lib.hid hxl
  have hbx0 := HBx.out.cell 0
  have hbx1 := HBx.out.cell 1
  have hbx2 := HBx.out.cell 2
  have hbx3 := HBx.out.cell 3
  have hbx4 := HBx.out.cell 4
  have hbx5 := HBx.out.cell 5
  simp only [List.getElem?_toArray, List.getElem?_cons_zero, List.getElem?_cons_succ] at hbx0 hbx1 hbx2 hbx3 hbx4 hbx5
  rw [hk] at HW10
  rw [hw1] at HB1 HBt1 HBx hbx0 hbx1 hbx2 hbx3 hbx4 hbx5
  rw [hab] at HBx hbx0 hbx1 hbx2 hbx3 hbx4 hbx5
  rw [hxl] at HBt1 HBat hbx5 hw1 ⊢
  clear h b0 b1 hxl
  go_enter Try.func8, Try.ntmps8
  go_wp2_with fail
  refine HBt1.out.mono ?_
  rintro e w2 ⟨A2, n, c2, rfl, hP2⟩
  have HP2 := Lib.hid hP2
  clear hw1 hab hP2 hbx0 hbx1 hbx2 hbx3 hbx4 hbx5
  have hn3 : n ≤ 3 := HP2.out.short
  go_wp2_with fail
  refine (mcopy_reqs A2 c2 n w2.heap.size (btS x) w2 HP2.out.len.symm (by omega) HP2.out.has HP2.out.nil).mono ?_
  rintro e w3 ⟨vb, rfl, ho3, hb3⟩
  have hlow3 : Below w.heap.size w w3 := (HB1.out.trans (HP2.out.low.mono HB1.out.size)).trans (hb3.mono (Nat.le_trans HB1.out.size HP2.out.low.size))
  have HPr := Lib.hid (HIn.out.start (Nat.le_trans HB1.out.size HP2.out.low.size) ho3 hlow3 ((HBx.out.below HP2.out.low HBx.out.lt).below hb3 (Nat.lt_of_lt_of_le HBx.out.lt HP2.out.low.size)))
  obtain ⟨Ab, cb, rfl, -, -⟩ := own_slice ho3
  clear ho3 hb3 hlow3 HP2 HBt1 HB1 HBx
  have HAct := Lib.hid (show actS n0 x s = Sx.new n0 from by unfold actS; rw [hk]; rfl)
  obtain ⟨A0, c0, r1, r2, M1, M2, p1, p2, p3, p4⟩ := HPr.out.ds.mem
  obtain ⟨B1, k1, rfl, -, -⟩ := own_slice p3.own
  obtain ⟨B2, k2, rfl, -, -⟩ := own_slice p4.own
  obtain ⟨bo, hbo⟩ : ∃ y, s.ch.isSome = y := ⟨_, rfl⟩
  obtain ⟨l0, hl0⟩ : ∃ y, (s.ch.getD []).length = y := ⟨_, rfl⟩
  obtain ⟨l1, hl1⟩ : ∃ y, (dvs 0 s.P).length = y := ⟨_, rfl⟩
  obtain ⟨l2, hl2⟩ : ∃ y, (dvs 0 s.C).length = y := ⟨_, rfl⟩
  rw [hbo, hl0, hl1, hl2] at p1
  have e0 := p1.cell 0
  have e1 := p1.cell 1
  have e2 := p1.cell 2
  have e3 := p1.cell 3
  have f0 := p1.frozen 0
  have f1 := p1.frozen 1
  have f2 := p1.frozen 2
  have f3 := p1.frozen 3
  simp only [List.getElem?_toArray, List.getElem?_cons_zero, List.getElem?_cons_succ] at e0 e1 e2 e3
  have HNew := Lib.hid (show Pr w ((((w3.setCell ⟨pb, 0, none⟩ (.bool false)).setCell ⟨pb, 1, none⟩ (.slice none 0 0)).setCell ⟨pb, 2, none⟩ (.slice none 0 0)).setCell ⟨pb, 3, none⟩ (.slice none 0 0)) Y sb v1 v2 pb f s (Sx.new n0) (.slice Ab n cb) n ab x from by
    have ht : Turn (fun k => k = pb) w3 ((((w3.setCell ⟨pb, 0, none⟩ (.bool false)).setCell ⟨pb, 1, none⟩ (.slice none 0 0)).setCell ⟨pb, 2, none⟩ (.slice none 0 0)).setCell ⟨pb, 3, none⟩ (.slice none 0 0)) := ((((Turn.refl (fun k => k = pb) w3).set_ ⟨pb, 0, none⟩ _ rfl).set_ ⟨pb, 1, none⟩ _ rfl).set_ ⟨pb, 2, none⟩ _ rfl).set_ ⟨pb, 3, none⟩ _ rfl
    refine HPr.out.doc ht ⟨none, 0, .slice none 0 0, .slice none 0 0, [], [], (((p1.set_ 0 _).set_ 1 _).set_ 2 _).set_ 3 _, DBat.none _ _, ?_, ?_⟩ HPr.out.off
    · rw [show dvs 0 (Sx.new n0).P = [] from dvs_off _ _]; exact DRow.nought _ _
    · rw [show dvs 0 (Sx.new n0).C = [] from dvs_off _ _]; exact DRow.nought _ _)
  clear p1 p2 p3 p4 hk hbo hl0 hl1 hl2
  have d0 := HPr.out.box.cell 0
  have d1 := HPr.out.box.cell 1
  have d2 := HPr.out.box.cell 2
  have d3 := HPr.out.box.cell 3
  have d4 := HPr.out.box.cell 4
  have d5 := HPr.out.box.cell 5
  simp only [List.getElem?_toArray, List.getElem?_cons_zero, List.getElem?_cons_succ] at d0 d1 d2 d3 d4 d5
  rw [HXl.out] at d5
  go_wp2_with fail
  refine (HW10.out _).mono ?_
  rintro e wq ⟨rfl, rfl⟩
  go_wp2_with fail
  obtain ⟨w5, hw5⟩ : ∃ y, (((w3.setCell ⟨pb, 0, none⟩ (.bool false)).setCell ⟨pb, 1, none⟩ (.slice none 0 0)).setCell ⟨pb, 2, none⟩ (.slice none 0 0)).setCell ⟨pb, 3, none⟩ (.slice none 0 0) = y := ⟨_, rfl⟩
  rw [hw5] at HNew ⊢
  clear hw5 e0 e1 e2 e3 f0 f1 f2 f3 d0 d1 d2 d3 d4 d5
  have HPc := Lib.hid (sreset_any HNew.out.sl HIn.out.n0)
  refine HPc.out.mono ?_
  rintro e w6 ⟨rfl, hp⟩
  obtain ⟨u1, u2, hm⟩ := HNew.out.mid hp
  have HM := Lib.hid (show Mid w w6 Y sb v1 v2 u1 u2 pb f (actS n0 x s) (.slice Ab n cb) n from by rw [HAct.out]; exact hm)
  clear hp hm HPc
  go_wp2_with fail
  go_loopw [15, 112] (fun _ y wr => ∃ (k : Nat), y = .int .i64 k ∧ k ≤ n ∧ Hid (Mid w wr Y sb v1 v2 u1 u2 pb f (actS n0 x s) (.slice Ab n cb) n)) (fun _ y _ => n - (intOf y).toNat)
  case atStart => exact ⟨0, rfl, Nat.zero_le _, HM⟩
  case round =>
    clear HM
    obtain ⟨k, rfl, hk, HM⟩ := hrel
    by_cases hlt : k < n
    · obtain ⟨g, e0, e1, e2, e3, e4, e5, rfl, c0, c1, c2, c3, c4, c5, hfr, hm⟩ := HM.out.cells hlt
      have f0 := hfr (k * 6)
      have f1 := hfr (k * 6 + 1)
      have f2 := hfr (k * 6 + 2)
      have f3 := hfr (k * 6 + 3)
      have f4 := hfr (k * 6 + 4)
      have f5 := hfr (k * 6 + 5)
      have HM2 := Lib.hid hm
      clear hfr hm
      go_wp2_with fail
      go_roundw
      case rel => exact ⟨k + 1, by go_num, by omega, HM2⟩
      case measure => simp [intOf]; omega
    · obtain rfl : k = n := by omega
      have HRt := Lib.hid (right14_any HM.out.sl HM.out.ds)
      go_wp2_with fail
      refine HRt.out.mono ?_
      rintro e w9 ⟨rfl, hb9⟩
      have HM9 := Lib.hid (HM.out.below hb9).done
      clear hb9
      go_wp2_with fail
      go_ret
      exact ⟨rfl, HM9.out⟩
theorem vote_bad (s : Sx) (kd k sg : Int) (b : List Rq) (h : k < 0 ∨ (s.P.length : Int) ≤ k) (hl : s.C.length = s.P.length) : s.vote kd k sg b = (false, s) := by
  unfold Sx.vote
  rw [votS_bad (L := s.P) h, votS_bad (L := s.C) (by omega)]
  split
  · rfl
  · split <;> rfl
set_option maxRecDepth 100000 in
set_option maxHeartbeats 4000000 in
theorem do_low (h : DoIn w Y sb v1 v2 pb f s n0 x) {kk : Int} (hk : x.dd % 10 = kk) (hk1 : 1 ≤ kk ∧ kk ≤ 8) (hnd : x.nd < 0) :
    Calls Try.prog 8 #[.pointer (some ⟨sb, 0, none⟩), .pointer (some ⟨pb, 0, none⟩), .int .i64 f, .agg #[.int .i64 x.dd, .int .i64 x.ki, .int .i64 x.nd, .int .i64 x.sg, .int .i64 x.wh, .slice x.A x.l.length x.c]] w fun e w' => e = .returned (.bool true) ∧ DoPost w w' Y sb v1 v2 pb f (actS n0 x s) := by
  obtain ⟨b0, b1⟩ := wf_i64 h.dd
  have HW10 := Lib.hid (fun w => within_any x.dd 10 (by omega) (by omega) b0 b1 w)
  have HB1 := Lib.hid (show Below w.heap.size w (w.alloc (.cells #[.int .i64 x.dd, .int .i64 x.ki, .int .i64 x.nd, .int .i64 x.sg, .int .i64 x.wh, .slice x.A x.l.length x.c] 35)) from (Below.refl _ _).alloc (Nat.le_refl _) _)
  have HBx := Lib.hid (Blk.new w 35 #[.int .i64 x.dd, .int .i64 x.ki, .int .i64 x.nd, .int .i64 x.sg, .int .i64 x.wh, .slice x.A x.l.length x.c])
  have HBat := Lib.hid (fun (wz : World) (hx : Has wz wz.heap.size x.A (reqCells x.l)) => batch14_any hx h.le h.most h.nil h.wh)
  have HBt1 := Lib.hid (HBat.out _ ((h.arg.below HB1.out (Nat.le_refl _)).more HB1.out.size))
  have HIn := Lib.hid h
  obtain ⟨w1, hw1⟩ : ∃ w1, w.alloc (.cells #[.int .i64 x.dd, .int .i64 x.ki, .int .i64 x.nd, .int .i64 x.sg, .int .i64 x.wh, .slice x.A x.l.length x.c] 35) = w1 := ⟨_, rfl⟩
  obtain ⟨ab, hab⟩ : ∃ y, w.heap.size = y := ⟨_, rfl⟩
  have HAb := Lib.hid hab
  obtain ⟨xl, hxl⟩ : ∃ y, x.l.length = y := ⟨_, rfl⟩
  have HXl := Lib.hid hxl
  have hbx0 := HBx.out.cell 0
  have hbx1 := HBx.out.cell 1
  have hbx2 := HBx.out.cell 2
  have hbx3 := HBx.out.cell 3
  have hbx4 := HBx.out.cell 4
  have hbx5 := HBx.out.cell 5
  simp only [List.getElem?_toArray, List.getElem?_cons_zero, List.getElem?_cons_succ] at hbx0 hbx1 hbx2 hbx3 hbx4 hbx5
  rw [hk] at HW10
  rw [hw1] at HB1 HBt1 HBx hbx0 hbx1 hbx2 hbx3 hbx4 hbx5
  rw [hab] at HBx hbx0 hbx1 hbx2 hbx3 hbx4 hbx5
  rw [hxl] at HBt1 HBat hbx5 hw1 ⊢
  clear h b0 b1 hxl
  go_enter Try.func8, Try.ntmps8
  go_wp2_with fail
  refine HBt1.out.mono ?_
  rintro e w2 ⟨A2, n, c2, rfl, hP2⟩
  have HP2 := Lib.hid hP2
  clear hw1 hab hP2 hbx0 hbx1 hbx2 hbx3 hbx4 hbx5
  have hn3 : n ≤ 3 := HP2.out.short
  go_wp2_with fail
  refine (mcopy_reqs A2 c2 n w2.heap.size (btS x) w2 HP2.out.len.symm (by omega) HP2.out.has HP2.out.nil).mono ?_
  rintro e w3 ⟨vb, rfl, ho3, hb3⟩
  have hlow3 : Below w.heap.size w w3 := (HB1.out.trans (HP2.out.low.mono HB1.out.size)).trans (hb3.mono (Nat.le_trans HB1.out.size HP2.out.low.size))
  have HPr := Lib.hid (HIn.out.start (Nat.le_trans HB1.out.size HP2.out.low.size) ho3 hlow3 ((HBx.out.below HP2.out.low HBx.out.lt).below hb3 (Nat.lt_of_lt_of_le HBx.out.lt HP2.out.low.size)))
  obtain ⟨Ab, cb, rfl, -, -⟩ := own_slice ho3
  clear ho3 hb3 hlow3 HP2 HBt1 HB1 HBx
  have HAct := Lib.hid (show actS n0 x s = (s.vote x.ki x.nd x.sg (btS x)).2 from by unfold actS; rw [hk, if_neg (by omega), if_pos (by omega)])
  have HSv := Lib.hid (show s.vote x.ki x.nd x.sg (btS x) = (false, s) from vote_bad s _ _ _ _ (by rw [HIn.out.n0]; omega) (by have h1 := HIn.out.sl.n1; have h2 := HIn.out.sl.n2; have h3 := HIn.out.n0; omega))
  have hlen := (show (btS x).length = n from by have := HPr.out.row.1; rw [reqCells_len] at this; omega)
  have HLn := Lib.hid hlen
  have hkk : (kk == 0) = false := by simp; omega
  have hk9 : kk < 9 := by omega
  clear hk hlen
  have HNo := Lib.hid (fun (w : World) => (show Calls Try.prog 29 #[.int .i64 f] w fun e w' => e = .returned (.int .i64 (n0 : Int)) ∧ w' = w from by
    have hf1 := HIn.out.sl.f1
    have hf4 := HIn.out.sl.f4
    have hn1 := HIn.out.sl.n1
    have := rnodes_any f w
    rw [nodesS_in hf1 hf4, ← hn1, HIn.out.n0] at this
    exact this.mono fun _ _ he => ⟨he.1, he.2.symm⟩))
  have d0 := HPr.out.box.cell 0
  have d1 := HPr.out.box.cell 1
  have d2 := HPr.out.box.cell 2
  have d3 := HPr.out.box.cell 3
  have d4 := HPr.out.box.cell 4
  have d5 := HPr.out.box.cell 5
  simp only [List.getElem?_toArray, List.getElem?_cons_zero, List.getElem?_cons_succ] at d0 d1 d2 d3 d4 d5
  rw [HXl.out] at d5
  have HBq := Lib.hid (fun (m : Nat) => (HPr.out.below (w6 := w3.drewN m) ⟨rfl, rfl, rfl, Nat.le_refl _, fun _ _ => rfl⟩))
  have y2 := fun (m : Nat) => (show (w3.drewN m).cell? ⟨ab, 2, none⟩ = some (.int .i64 x.nd) from d2)
  go_wp2_with fail
  refine (HW10.out _).mono ?_
  rintro e wq ⟨rfl, rfl⟩
  go_wp2_with fail
  have hg1 : decide (0 ≤ x.nd) = false := decide_eq_false (by omega)
  go_quiet ((go_at_call 29; exact Calls.quiet_of_same (HNo.out _)))
  have HPr2 := HBq.out nq
  obtain ⟨w4, hw4⟩ : ∃ y, w3.drewN nq = y := ⟨_, rfl⟩
  rw [hw4] at HPr2 ⊢
  have HPr2 := Lib.hid HPr2
  clear hw4 d0 d1 d2 d3 d4 d5 y2 HBq
  have d0 := HPr2.out.box.cell 0
  have d1 := HPr2.out.box.cell 1
  have d2 := HPr2.out.box.cell 2
  have d3 := HPr2.out.box.cell 3
  have d4 := HPr2.out.box.cell 4
  have d5 := HPr2.out.box.cell 5
  simp only [List.getElem?_toArray, List.getElem?_cons_zero, List.getElem?_cons_succ] at d0 d1 d2 d3 d4 d5
  rw [HXl.out] at d5
  have HPc := Lib.hid (svote_any HPr2.out.sl x.ki x.nd x.sg (c := cb) (has_rows HPr2.out.row) HLn.out (by omega))
  rw [HSv.out] at HPc
  go_wp2_with fail
  refine HPc.out.mono ?_
  rintro e w6 ⟨rfl, hp⟩
  obtain ⟨u1, u2, hm⟩ := HPr2.out.mid hp
  have HM := Lib.hid (show Mid w w6 Y sb v1 v2 u1 u2 pb f (actS n0 x s) (.slice Ab n cb) n from by rw [HAct.out, HSv.out]; exact hm)
  clear hp hm HPc d0 d1 d2 d3 d4 d5
  go_wp2_with fail
  go_loopw [15, 112] (fun _ y wr => ∃ (k : Nat), y = .int .i64 k ∧ k ≤ n ∧ Hid (Mid w wr Y sb v1 v2 u1 u2 pb f (actS n0 x s) (.slice Ab n cb) n)) (fun _ y _ => n - (intOf y).toNat)
  case atStart => exact ⟨0, rfl, Nat.zero_le _, HM⟩
  case round =>
    clear HM
    obtain ⟨k, rfl, hk, HM⟩ := hrel
    by_cases hlt : k < n
    · obtain ⟨g, e0, e1, e2, e3, e4, e5, rfl, c0, c1, c2, c3, c4, c5, hfr, hm⟩ := HM.out.cells hlt
      have f0 := hfr (k * 6)
      have f1 := hfr (k * 6 + 1)
      have f2 := hfr (k * 6 + 2)
      have f3 := hfr (k * 6 + 3)
      have f4 := hfr (k * 6 + 4)
      have f5 := hfr (k * 6 + 5)
      have HM2 := Lib.hid hm
      clear hfr hm
      go_wp2_with fail
      go_roundw
      case rel => exact ⟨k + 1, by go_num, by omega, HM2⟩
      case measure => simp [intOf]; omega
    · obtain rfl : k = n := by omega
      have HRt := Lib.hid (right14_any HM.out.sl HM.out.ds)
      go_wp2_with fail
      refine HRt.out.mono ?_
      rintro e w9 ⟨rfl, hb9⟩
      have HM9 := Lib.hid (HM.out.below hb9).done
      clear hb9
      go_wp2_with fail
      go_ret
      exact ⟨rfl, HM9.out⟩
set_option maxRecDepth 100000 in
set_option maxHeartbeats 4000000 in
theorem do_high (h : DoIn w Y sb v1 v2 pb f s n0 x) {kk : Int} (hk : x.dd % 10 = kk) (hk1 : 1 ≤ kk ∧ kk ≤ 8) (hnd : (n0 : Int) ≤ x.nd) :
    Calls Try.prog 8 #[.pointer (some ⟨sb, 0, none⟩), .pointer (some ⟨pb, 0, none⟩), .int .i64 f, .agg #[.int .i64 x.dd, .int .i64 x.ki, .int .i64 x.nd, .int .i64 x.sg, .int .i64 x.wh, .slice x.A x.l.length x.c]] w fun e w' => e = .returned (.bool true) ∧ DoPost w w' Y sb v1 v2 pb f (actS n0 x s) := by
  obtain ⟨b0, b1⟩ := wf_i64 h.dd
  have HW10 := Lib.hid (fun w => within_any x.dd 10 (by omega) (by omega) b0 b1 w)
  have HB1 := Lib.hid (show Below w.heap.size w (w.alloc (.cells #[.int .i64 x.dd, .int .i64 x.ki, .int .i64 x.nd, .int .i64 x.sg, .int .i64 x.wh, .slice x.A x.l.length x.c] 35)) from (Below.refl _ _).alloc (Nat.le_refl _) _)
  have HBx := Lib.hid (Blk.new w 35 #[.int .i64 x.dd, .int .i64 x.ki, .int .i64 x.nd, .int .i64 x.sg, .int .i64 x.wh, .slice x.A x.l.length x.c])
  have HBat := Lib.hid (fun (wz : World) (hx : Has wz wz.heap.size x.A (reqCells x.l)) => batch14_any hx h.le h.most h.nil h.wh)
  have HBt1 := Lib.hid (HBat.out _ ((h.arg.below HB1.out (Nat.le_refl _)).more HB1.out.size))
  have HIn := Lib.hid h
  obtain ⟨w1, hw1⟩ : ∃ w1, w.alloc (.cells #[.int .i64 x.dd, .int .i64 x.ki, .int .i64 x.nd, .int .i64 x.sg, .int .i64 x.wh, .slice x.A x.l.length x.c] 35) = w1 := ⟨_, rfl⟩
  obtain ⟨ab, hab⟩ : ∃ y, w.heap.size = y := ⟨_, rfl⟩
  have HAb := Lib.hid hab
  obtain ⟨xl, hxl⟩ : ∃ y, x.l.length = y := ⟨_, rfl⟩
  have HXl := Lib.hid hxl
  have hbx0 := HBx.out.cell 0
  have hbx1 := HBx.out.cell 1
  have hbx2 := HBx.out.cell 2
  have hbx3 := HBx.out.cell 3
  have hbx4 := HBx.out.cell 4
  have hbx5 := HBx.out.cell 5
  simp only [List.getElem?_toArray, List.getElem?_cons_zero, List.getElem?_cons_succ] at hbx0 hbx1 hbx2 hbx3 hbx4 hbx5
  rw [hk] at HW10
  rw [hw1] at HB1 HBt1 HBx hbx0 hbx1 hbx2 hbx3 hbx4 hbx5
  rw [hab] at HBx hbx0 hbx1 hbx2 hbx3 hbx4 hbx5
  rw [hxl] at HBt1 HBat hbx5 hw1 ⊢
  clear h b0 b1 hxl
  go_enter Try.func8, Try.ntmps8
  go_wp2_with fail
  refine HBt1.out.mono ?_
  rintro e w2 ⟨A2, n, c2, rfl, hP2⟩
  have HP2 := Lib.hid hP2
  clear hw1 hab hP2 hbx0 hbx1 hbx2 hbx3 hbx4 hbx5
  have hn3 : n ≤ 3 := HP2.out.short
  go_wp2_with fail
  refine (mcopy_reqs A2 c2 n w2.heap.size (btS x) w2 HP2.out.len.symm (by omega) HP2.out.has HP2.out.nil).mono ?_
  rintro e w3 ⟨vb, rfl, ho3, hb3⟩
  have hlow3 : Below w.heap.size w w3 := (HB1.out.trans (HP2.out.low.mono HB1.out.size)).trans (hb3.mono (Nat.le_trans HB1.out.size HP2.out.low.size))
  have HPr := Lib.hid (HIn.out.start (Nat.le_trans HB1.out.size HP2.out.low.size) ho3 hlow3 ((HBx.out.below HP2.out.low HBx.out.lt).below hb3 (Nat.lt_of_lt_of_le HBx.out.lt HP2.out.low.size)))
  obtain ⟨Ab, cb, rfl, -, -⟩ := own_slice ho3
  clear ho3 hb3 hlow3 HP2 HBt1 HB1 HBx
  have HAct := Lib.hid (show actS n0 x s = (s.vote x.ki x.nd x.sg (btS x)).2 from by unfold actS; rw [hk, if_neg (by omega), if_pos (by omega)])
  have HSv := Lib.hid (show s.vote x.ki x.nd x.sg (btS x) = (false, s) from vote_bad s _ _ _ _ (by rw [HIn.out.n0]; omega) (by have h1 := HIn.out.sl.n1; have h2 := HIn.out.sl.n2; have h3 := HIn.out.n0; omega))
  have hlen := (show (btS x).length = n from by have := HPr.out.row.1; rw [reqCells_len] at this; omega)
  have HLn := Lib.hid hlen
  have hkk : (kk == 0) = false := by simp; omega
  have hk9 : kk < 9 := by omega
  clear hk hlen
  have HNo := Lib.hid (fun (w : World) => (show Calls Try.prog 29 #[.int .i64 f] w fun e w' => e = .returned (.int .i64 (n0 : Int)) ∧ w' = w from by
    have hf1 := HIn.out.sl.f1
    have hf4 := HIn.out.sl.f4
    have hn1 := HIn.out.sl.n1
    have := rnodes_any f w
    rw [nodesS_in hf1 hf4, ← hn1, HIn.out.n0] at this
    exact this.mono fun _ _ he => ⟨he.1, he.2.symm⟩))
  have d0 := HPr.out.box.cell 0
  have d1 := HPr.out.box.cell 1
  have d2 := HPr.out.box.cell 2
  have d3 := HPr.out.box.cell 3
  have d4 := HPr.out.box.cell 4
  have d5 := HPr.out.box.cell 5
  simp only [List.getElem?_toArray, List.getElem?_cons_zero, List.getElem?_cons_succ] at d0 d1 d2 d3 d4 d5
  rw [HXl.out] at d5
  have HBq := Lib.hid (fun (m : Nat) => (HPr.out.below (w6 := w3.drewN m) ⟨rfl, rfl, rfl, Nat.le_refl _, fun _ _ => rfl⟩))
  have y2 := fun (m : Nat) => (show (w3.drewN m).cell? ⟨ab, 2, none⟩ = some (.int .i64 x.nd) from d2)
  go_wp2_with fail
  refine (HW10.out _).mono ?_
  rintro e wq ⟨rfl, rfl⟩
  go_wp2_with fail
  have hg1 : decide (0 ≤ x.nd) = true := decide_eq_true (by omega)
  have hg2 : decide (x.nd < (n0 : Int)) = false := decide_eq_false (by omega)
  go_quiet ((go_at_call 29; exact Calls.quiet_of_same (HNo.out _)))
  have HPr2 := HBq.out nq
  obtain ⟨w4, hw4⟩ : ∃ y, w3.drewN nq = y := ⟨_, rfl⟩
  rw [hw4] at HPr2 ⊢
  have HPr2 := Lib.hid HPr2
  clear hw4 d0 d1 d2 d3 d4 d5 y2 HBq
  have d0 := HPr2.out.box.cell 0
  have d1 := HPr2.out.box.cell 1
  have d2 := HPr2.out.box.cell 2
  have d3 := HPr2.out.box.cell 3
  have d4 := HPr2.out.box.cell 4
  have d5 := HPr2.out.box.cell 5
  simp only [List.getElem?_toArray, List.getElem?_cons_zero, List.getElem?_cons_succ] at d0 d1 d2 d3 d4 d5
  rw [HXl.out] at d5
  have HPc := Lib.hid (svote_any HPr2.out.sl x.ki x.nd x.sg (c := cb) (has_rows HPr2.out.row) HLn.out (by omega))
  rw [HSv.out] at HPc
  go_wp2_with fail
  refine HPc.out.mono ?_
  rintro e w6 ⟨rfl, hp⟩
  obtain ⟨u1, u2, hm⟩ := HPr2.out.mid hp
  have HM := Lib.hid (show Mid w w6 Y sb v1 v2 u1 u2 pb f (actS n0 x s) (.slice Ab n cb) n from by rw [HAct.out, HSv.out]; exact hm)
  clear hp hm HPc d0 d1 d2 d3 d4 d5
  go_wp2_with fail
  go_loopw [15, 112] (fun _ y wr => ∃ (k : Nat), y = .int .i64 k ∧ k ≤ n ∧ Hid (Mid w wr Y sb v1 v2 u1 u2 pb f (actS n0 x s) (.slice Ab n cb) n)) (fun _ y _ => n - (intOf y).toNat)
  case atStart => exact ⟨0, rfl, Nat.zero_le _, HM⟩
  case round =>
    clear HM
    obtain ⟨k, rfl, hk, HM⟩ := hrel
    by_cases hlt : k < n
    · obtain ⟨g, e0, e1, e2, e3, e4, e5, rfl, c0, c1, c2, c3, c4, c5, hfr, hm⟩ := HM.out.cells hlt
      have f0 := hfr (k * 6)
      have f1 := hfr (k * 6 + 1)
      have f2 := hfr (k * 6 + 2)
      have f3 := hfr (k * 6 + 3)
      have f4 := hfr (k * 6 + 4)
      have f5 := hfr (k * 6 + 5)
      have HM2 := Lib.hid hm
      clear hfr hm
      go_wp2_with fail
      go_roundw
      case rel => exact ⟨k + 1, by go_num, by omega, HM2⟩
      case measure => simp [intOf]; omega
    · obtain rfl : k = n := by omega
      have HRt := Lib.hid (right14_any HM.out.sl HM.out.ds)
      go_wp2_with fail
      refine HRt.out.mono ?_
      rintro e w9 ⟨rfl, hb9⟩
      have HM9 := Lib.hid (HM.out.below hb9).done
      clear hb9
      go_wp2_with fail
      go_ret
      exact ⟨rfl, HM9.out⟩
end
end Go.Proofs.Ytcebnmhkbhhfiaa
