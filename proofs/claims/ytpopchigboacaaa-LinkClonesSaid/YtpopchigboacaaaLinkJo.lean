/- The program's queue and the law's own list, side by side. -/
import Derived.Test.YtpopchigboacaaaQueue4
import Derived.Test.YtpopchigboacaaaActs7
namespace Go.Proofs.Ytpopchigboacaaa
open Go.RowKit Go.Sort
set_option linter.unusedSimpArgs false
set_option linter.unusedVariables false

/-- Bytes as they came in: where they lie. -/
structure Bs where
  A : Option Addr
  c : Nat
  z : List Int
def Bs.val (x : Bs) : Value := .slice x.A x.z.length x.c
def bsV (l : List Bs) : List Value := l.map Bs.val
theorem bs_len (l : List Bs) : (bsV l).length = l.length := by simp [bsV]
theorem bs_one (l : List Bs) : ∀ u ∈ bsV l, u.oneCell' = true := by
  intro u hu
  obtain ⟨z, _, rfl⟩ := List.mem_map.1 hu
  rfl
theorem bs_app (l : List Bs) (x : Bs) : bsV (l ++ [x]) = bsV l ++ [x.val] := by simp [bsV]
structure Bs.In (w : World) (B : Nat) (x : Bs) : Prop where
  has : Has w B x.A (u8s x.z)
  good : By x.z
/-- The law's own queue in block pb: room, lost, and its list. -/
structure Pl (R : Nat → Prop) (w : World) (pb : Nat) (room lost : Int) (l : List Bs) : Prop where
  zone : R pb
  ex : ∃ v, Blk w pb 42 #[.int .i64 room, .int .i64 lost, v] ∧ w.ownsRow 0 27 1 v l.length (bsV l) ∧ ∀ g, v.ownBlock = some g → R g
def PZ (R : Nat → Prop) (w : World) (k : Nat) : Prop := R k ∧ ∃ cs fr t, w.heap[k]? = some (.cells cs t fr) ∧ (t = 42 ∨ t = 27)
theorem pz_in {R : Nat → Prop} {w : World} {base n s pb : Nat} {v : Value} {xs : List Value} {cs : Array Value} (hR : R pb) (hb : Blk w pb 42 cs) (ho : w.ownsRow base 27 s v n xs) (hz : ∀ g, v.ownBlock = some g → R g) {k : Nat} (hk : k = pb ∨ v.ownBlock = some k) : PZ R w k := by
  rcases hk with rfl | hk
  · exact ⟨hR, cs, _, _, hb, Or.inl rfl⟩
  · rcases ho.2 with ⟨rfl, _⟩ | ⟨g', cap, cur, rfl, _, hh, _⟩
    · cases hk
    · have : g' = k := Option.some.inj hk
      subst this
      exact ⟨hz _ rfl, cur, _, _, hh, Or.inr rfl⟩
theorem zones_apart {R R' : Nat → Prop} {w : World} {k : Nat} (h : QZ R w k) (h' : PZ R' w k) : False := by
  obtain ⟨_, cs, fr, t, he, ht⟩ := h
  obtain ⟨_, cs', fr', t', he', ht'⟩ := h'
  rw [he] at he'
  injection he' with he'
  injection he' with _ he' _
  subst he'
  rcases ht with rfl | rfl <;> rcases ht' with h | h <;> exact absurd h (by decide)
/-- A block of bytes is in neither. -/
theorem qz_bytes {R : Nat → Prop} {w : World} {k : Nat} {cs : Array Value} {fr : Nat × Nat} (h : w.heap[k]? = some (.cells cs 5 fr)) : ¬ QZ R w k := by
  rintro ⟨_, cs', fr', t, he, ht⟩
  rw [h] at he
  injection he with he
  injection he with _ he _
  subst he
  exact ht.elim (by decide) (by decide)
theorem pz_bytes {R : Nat → Prop} {w : World} {k : Nat} {cs : Array Value} {fr : Nat × Nat} (h : w.heap[k]? = some (.cells cs 5 fr)) : ¬ PZ R w k := by
  rintro ⟨_, cs', fr', t, he, ht⟩
  rw [h] at he
  injection he with he
  injection he with _ he _
  subst he
  exact ht.elim (by decide) (by decide)
section
variable {R R' : Nat → Prop} {w w' : World} {pb : Nat} {room lost : Int} {l : List Bs}
theorem Pl.lt (h : Pl R w pb room lost l) : pb < w.heap.size := by
  obtain ⟨_, h1, _⟩ := h.ex
  exact h1.lt
theorem Pl.mono (h : Pl R w pb room lost l) (hz : ∀ k, k < w.heap.size → R k → R' k) : Pl R' w pb room lost l := by
  obtain ⟨v, h1, h2, h3⟩ := h.ex
  exact ⟨hz _ h.lt h.zone, v, h1, h2, fun g hg => hz g (h2.lt g hg).2 (h3 g hg)⟩
theorem Pl.kept {Z : Nat → Prop} (h : Pl R w pb room lost l) (ht : Turn Z w w') (hz : ∀ k, k < w.heap.size → PZ R w k → ¬ Z k) : Pl R w' pb room lost l := by
  obtain ⟨v, h1, h2, h3⟩ := h.ex
  exact ⟨h.zone, v, ht.blk h1 (hz _ h.lt (pz_in h.zone h1 h2 h3 (Or.inl rfl))), ht.own h2 (fun g hg => hz g (h2.lt g hg).2 (pz_in h.zone h1 h2 h3 (Or.inr hg))), h3⟩
end
/-- Both, in the zone R, which holds all that is new since w; arguments lie below B. -/
structure Jo (R : Nat → Prop) (B : Nat) (w wx : World) (qb pb : Nat) (room lq : Int) (L : List (List Int)) (lp : Int) (l : List Bs) : Prop where
  q : Qu R wx qb room lq L
  p : Pl R wx pb room lp l
  in_ : ∀ x ∈ l, x.In wx B
  tn : Turn R w wx
  new : ∀ k, w.heap.size ≤ k → R k
  low : ∀ k, k < B → ¬ R k
section
variable {R : Nat → Prop} {B : Nat} {w wx wy : World} {qb pb : Nat} {room lq lp lq' lp' : Int} {L L' : List (List Int)} {l l' : List Bs}
theorem Jo.sz (h : Jo R B w wx qb pb room lq L lp l) : w.heap.size ≤ wx.heap.size := h.tn.size
theorem Bs.In.kept {Z : Nat → Prop} {x : Bs} (h : x.In wx B) (ht : Turn Z wx wy) (hz : ∀ k, k < B → ¬ Z k) : x.In wy B := ⟨has_zone h.has ht hz, h.good⟩
theorem Jo.kept {Z : Nat → Prop} (h : Jo R B w wx qb pb room lq L lp l) (ht : Turn Z wx wy) (hz : ∀ k, k < wx.heap.size → Z k → R k ∧ ¬ QZ R wx k ∧ ¬ PZ R wx k) (hB : B ≤ wx.heap.size) : Jo R B w wy qb pb room lq L lp l :=
  ⟨h.q.kept ht (fun k hk hq hz' => (hz k hk hz').2.1 hq), h.p.kept ht (fun k hk hp hz' => (hz k hk hz').2.2 hp), fun x hx => (h.in_ x hx).kept ht (fun k hk hz' => h.low k hk (hz k (by omega) hz').1),
    h.tn.trans (ht.mono (fun k hk hz' => (hz k hk hz').1)), h.new, h.low⟩
theorem Jo.below (h : Jo R B w wx qb pb room lq L lp l) (hb : Below wx.heap.size wx wy) (hB : B ≤ wx.heap.size) : Jo R B w wy qb pb room lq L lp l :=
  h.kept (Turn.of_below (Z := fun _ => False) hb) (fun _ _ => False.elim) hB
theorem Jo.drewN (h : Jo R B w wx qb pb room lq L lp l) (n : Nat) (hB : B ≤ wx.heap.size) : Jo R B w (wx.drewN n) qb pb room lq L lp l :=
  h.kept ((Turn.refl (fun _ => False) wx).drewN n) (fun _ _ => False.elim) hB
/-- Behind a call of the queue's. -/
theorem Jo.of_q (h : Jo R B w wx qb pb room lq L lp l) (hq : Qu (fun k => R k ∨ wx.heap.size ≤ k) wy qb room lq' L') (ht : Turn (QZ R wx) wx wy) : Jo R B w wy qb pb room lq' L' lp l :=
  ⟨hq.mono (fun k _ hk => hk.elim id (fun h2 => h.new k (Nat.le_trans h.sz h2))), h.p.kept ht (fun k _ hp hz => zones_apart hz hp), fun x hx => (h.in_ x hx).kept ht (fun k hk hz => h.low k hk hz.1),
    h.tn.trans (ht.mono (fun k _ hk => hk.1)), h.new, h.low⟩
/-- Behind a new list of the law's own. -/
theorem Jo.put {v : Value} (h : Jo R B w wx qb pb room lq L lp l) (hb : Below wx.heap.size wx wy) (ho : wy.ownsRow wx.heap.size 27 1 v l'.length (bsV l')) (hin : ∀ x ∈ l', x.In wx B) (hB : B ≤ wx.heap.size) : Jo R B w (wy.setCell ⟨pb, 2, none⟩ v) qb pb room lq L lp l' := by
  obtain ⟨v0, h1, h2, h3⟩ := h.p.ex
  have hby := h1.below hb h1.lt
  have ht : Turn (PZ R wx) wx (wy.setCell ⟨pb, 2, none⟩ v) := (Turn.of_below hb).set_ _ _ (pz_in h.p.zone h1 h2 h3 (Or.inl rfl))
  refine ⟨h.q.kept ht (fun k _ hq hp => zones_apart hq hp), ⟨h.p.zone, v, hby.set_ 2 v, own_low (own_far ho (own_blk_ne ho hby (by decide)) _) (Nat.zero_le _), fun g hg => h.new g (Nat.le_trans h.sz (ho.lt g hg).1)⟩,
    fun x hx => (hin x hx).kept ht (fun k hk hz => h.low k hk hz.1), h.tn.trans (ht.mono (fun k _ hk => hk.1)), h.new, h.low⟩
/-- Behind one more that was lost. -/
theorem Jo.miss (h : Jo R B w wx qb pb room lq L lp l) : Jo R B w (wx.setCell ⟨pb, 1, none⟩ (.int .i64 (lp + 1))) qb pb room lq L (lp + 1) l := by
  obtain ⟨v0, h1, h2, h3⟩ := h.p.ex
  have ht : Turn (PZ R wx) wx (wx.setCell ⟨pb, 1, none⟩ (.int .i64 (lp + 1))) := (Turn.refl _ wx).set_ _ _ (pz_in h.p.zone h1 h2 h3 (Or.inl rfl))
  exact ⟨h.q.kept ht (fun k _ hq hp => zones_apart hq hp), ⟨h.p.zone, v0, h1.set_ 1 _, own_far h2 (own_blk_ne h2 h1 (by decide)) _, h3⟩,
    fun x hx => (h.in_ x hx).kept ht (fun k hk hz => h.low k hk hz.1), h.tn.trans (ht.mono (fun k _ hk => hk.1)), h.new, h.low⟩
/-- Behind a store into bytes. -/
theorem Jo.far {g : Nat} {cs : Array Value} {fr : Nat × Nat} (h : Jo R B w wx qb pb room lq L lp l) (ht : Turn (fun k => k = g) wx wy) (hg : wx.heap[g]? = some (.cells cs 5 fr)) (hR : R g) (hB : B ≤ wx.heap.size) : Jo R B w wy qb pb room lq L lp l :=
  h.kept ht (fun k _ e => by subst e; exact ⟨hR, qz_bytes hg, pz_bytes hg⟩) hB
end
theorem Bytes.blk {w : World} {g : Nat} {z : List Int} (h : Bytes w g z) (hz : z ≠ []) : g < w.heap.size := by
  cases z with
  | nil => exact absurd rfl hz
  | cons x z =>
    obtain ⟨ad, hA, _, hc⟩ := h.has.at (k := 0) (by simp [u8s])
    cases hA
    exact block_lt hc
set_option maxHeartbeats 1000000 in
/-- keep.Copy at slices of bytes. -/
theorem copy_bs (A : Option Addr) (c n B : Nat) (l : List Bs) (w : World) (hl : l.length = n) (hm : l.length ≤ 1048576) (hh : Has w B A (bsV l)) (hn : A = none → c = 0) :
    Calls Try.prog 22 #[.slice A n c] w fun e w' => ∃ v, e = .returned v ∧ w'.ownsRow w.heap.size 27 1 v n (bsV l) ∧ Below w.heap.size w w' := by
  obtain ⟨i0, hi, hz0, hz1, hz2⟩ := info_parts (show (Try.prog.info? 27).map (fun i => (i.zero, i.size, i.bytes)) = some (some (.slice none 0 0), 1, 24) by kernel_rfl)
  subst hl
  have HH := Lib.hid hh
  have HN := Lib.hid hn
  clear hh hn
  go_enter Try.func22, Try.ntmps22
  go_wp2_with (at_builtin; refine wpList_app rfl _ _ 40 rfl w.heap.size 27 i0 (.slice none 0 0) 24 Try.underlying40 hi hz0 hz1 hz2 rfl _ 0 [] rfl (World.ownsRow_nil _ _ _ _) B A _ c (bsV l) rfl (bs_len l) HH.out HN.out (bs_one l) (by unfold maxLen; omega) (by omega) (Nat.le_refl _) ?_)
  intro v w1 ho _ hb
  obtain ⟨Ab, cb, rfl, _, _⟩ := own_slice ho
  go_wp2
  go_ret
  exact ⟨_, rfl, by simpa using ho, hb⟩
/-- An element of the law's own list. -/
theorem own_bs {w : World} {v : Value} {l : List Bs} (ho : w.ownsRow 0 27 1 v l.length (bsV l)) {k : Nat} (hk : k < l.length) :
    ∃ g c, v = .slice (some ⟨g, 0, none⟩) l.length c ∧ l.length ≤ c ∧ c ≤ maxLen ∧ g < w.heap.size ∧ w.cell? ⟨g, k, none⟩ = some (.slice l[k].A l[k].z.length l[k].c) := by
  obtain ⟨g, c, hv, h1, h2⟩ := ho.form (by omega)
  obtain ⟨A, c', hv', h3, h4⟩ := own_slice ho
  rw [hv] at hv'
  injection hv' with e1 e2 e3
  subst e3
  refine ⟨g, c, hv, h3, h4, h2, ?_⟩
  have := ho.cells (g := g) (by rw [hv]; rfl) k (.slice l[k].A l[k].z.length l[k].c) (by simp [bsV, Bs.val, hk])
  rwa [addr_at] at this
/-! ### Slices of it -/
def tailB (A : Option Addr) (c k : Nat) : Option Addr := if c = k then A else A.map fun x => x.add k
set_option maxRecDepth 100000 in
theorem bslice_head {w : World} (A : Option Addr) {n c k : Nat} (h : k ≤ c) : (Instr.slice 40 (.slice A n c) none (some (.int .i64 k)) none).run Try.prog w = .ok (.slice A k c) w := by
  rw [run_slice_h w 40 A n c Try.underlying40 .i64 k (by omega) (by omega)]
  have : (sizeOf (Try.prog.elem 40)).run Try.prog w = .ok 1 w := by kernel_rfl
  rw [this]
  show Result.ok (sliced A 0 (k : Int).toNat c 1) w = _
  unfold sliced
  cases A with
  | none => simp
  | some a => simp [Addr.add]
set_option maxRecDepth 100000 in
theorem bslice_tail {w : World} (A : Option Addr) {n c k : Nat} (h : k ≤ n) : (Instr.slice 40 (.slice A n c) (some (.int .i64 k)) none none).run Try.prog w = .ok (.slice (tailB A c k) (n - k) (c - k)) w := by
  rw [run_slice_l w 40 A n c Try.underlying40 .i64 k (by omega) (by omega)]
  have : (sizeOf (Try.prog.elem 40)).run Try.prog w = .ok 1 w := by kernel_rfl
  rw [this]
  show Result.ok (sliced A (k : Int).toNat n c 1) w = _
  unfold sliced tailB
  simp
theorem bs_take (l : List Bs) (k : Nat) : bsV (l.take k) = (bsV l).take k := by simp [bsV, List.map_take]
theorem bs_drop (l : List Bs) (k : Nat) : bsV (l.drop k) = (bsV l).drop k := by simp [bsV, List.map_drop]
theorem has_head {w : World} {B : Nat} {A : Option Addr} {l : List Bs} (h : Has w B A (bsV l)) (k : Nat) : Has w B A (bsV (l.take k)) := fun j u hj => by
  rw [bs_take, List.getElem?_take] at hj
  split at hj
  · exact h j u hj
  · cases hj
theorem has_tailB {w : World} {B c k : Nat} {A : Option Addr} {l : List Bs} (h : Has w B A (bsV l)) (hc : l.length ≤ c) : Has w B (tailB A c k) (bsV (l.drop k)) := fun j u hj => by
  unfold tailB
  by_cases e : c = k
  · rw [List.drop_eq_nil_of_le (by omega)] at hj
    simp [bsV] at hj
  · rw [if_neg e]
    rw [bs_drop, List.getElem?_drop] at hj
    obtain ⟨ad, rfl, hb, hcell⟩ := h _ u hj
    exact ⟨ad.add k, rfl, by rw [addr_block]; exact hb, by rw [addr_add]; exact hcell⟩
theorem tailB_none {A : Option Addr} {c k : Nat} (h : A = none → c = 0) (e : tailB A c k = none) : c - k = 0 := by
  unfold tailB at e
  cases A with
  | none => rw [h rfl]; omega
  | some a =>
    split at e
    · cases e
    · cases e
theorem own_noneB {w : World} {base n c s : Nat} {e : TypeId} {A : Option Addr} {xs : List Value} (h : w.ownsRow base e s (.slice A n c) n xs) : A = none → c = 0 := by
  rintro rfl
  rcases h.2 with ⟨h1, _⟩ | ⟨g, cap, cur, h1, _⟩
  · injection h1
  · cases h1
theorem bs_cut {l : List Bs} {k : Nat} : bsV (l.take k) ++ bsV (l.drop (k + 1)) = bsV (cutL l k) := by simp [bsV, cutL]
theorem in_cut {w : World} {B : Nat} {l : List Bs} {k : Nat} (h : ∀ x ∈ l, x.In w B) : ∀ x ∈ cutL l k, x.In w B := fun x hx => h x (cutL_mem hx)
theorem info_bs : (Try.prog.info? 27).map (fun i => (i.zero, i.size, i.bytes)) = some (some (.slice none 0 0), 1, 24) := by kernel_rfl
theorem hasB_at {L : List (List Int)} {k : Int} (h : hasB L k = true) : ∃ j : Nat, k = j ∧ j < L.length := by
  unfold hasB at h
  rw [Bool.and_eq_true, decide_eq_true_iff, decide_eq_true_iff] at h
  exact ⟨k.toNat, by omega, by omega⟩
theorem hasB_map (l : List Bs) (k : Int) : hasB (l.map Bs.z) k = (decide (0 ≤ k) && decide (k < (l.length : Int))) := by simp [hasB]
/-- Push, whether there is room or not. -/
theorem qpush_both {R : Nat → Prop} {w : World} {qb : Nat} {room lost : Int} {L : List (List Int)} {fb : Bool} (h : Qu R w qb room lost L) (h0 : 0 ≤ lost) (hl : lost ≤ 1000000) (hfb : decide ((L.length : Int) < room) = fb) {A : Option Addr} {n c B : Nat} {z : List Int} (hh : Has w B A (u8s z)) (hn : z.length = n) (hz : By z) :
    Calls Try.prog 23 #[.pointer (some ⟨qb, 0, none⟩), .slice A n c] w fun e w' => e = .returned (.bool fb) ∧ Qu (fun k => R k ∨ w.heap.size ≤ k) w' qb room (if fb then lost else lost + 1) (if fb then L ++ [z] else L) ∧ Turn (QZ R w) w w' := by
  cases fb with
  | true => exact qpush_in h (of_decide_eq_true hfb) hh hn hz
  | false => exact qpush_out h h0 hl (Or.inl (by have := of_decide_eq_false hfb; have := h.len; omega))
end Go.Proofs.Ytpopchigboacaaa
