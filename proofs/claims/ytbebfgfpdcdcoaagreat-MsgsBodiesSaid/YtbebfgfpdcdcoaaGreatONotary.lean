/- The contracts of package notary: New, Find, Check, Len, Seal. -/
import Derived.Test.YtbebfgfpdcdcoaaGreatOS0
import Derived.Deep.QuietTactic
import Derived.BigQuiet
import Derived.Deep.RegionLaw
import Derived.RegionTactic
namespace Go.Proofs.YtbebfgfpdcdcoaaGreat
open Go.RowKit Go.Maps

/-- But for the blocks of Z, and what is new, nothing has changed. -/
structure Turn (Z : Nat → Prop) (w w' : World) : Prop where
  os : w'.os = w.os
  tape : w'.tape = w.tape
  output : w'.output = w.output
  size : w.heap.size ≤ w'.heap.size
  block : ∀ k, k < w.heap.size → ¬ Z k → w'.heap[k]? = w.heap[k]?
section
variable {Z Z' : Nat → Prop} {a b c : World}
theorem Turn.refl (Z : Nat → Prop) (w : World) : Turn Z w w := ⟨rfl, rfl, rfl, Nat.le_refl _, fun _ _ _ => rfl⟩
theorem Turn.trans (h : Turn Z a b) (k : Turn Z b c) : Turn Z a c :=
  ⟨k.os.trans h.os, k.tape.trans h.tape, k.output.trans h.output, Nat.le_trans h.size k.size, fun i hi hg => (k.block i (Nat.lt_of_lt_of_le hi h.size) hg).trans (h.block i hi hg)⟩
theorem Turn.mono (h : Turn Z a b) (hz : ∀ k, k < a.heap.size → Z k → Z' k) : Turn Z' a b := ⟨h.os, h.tape, h.output, h.size, fun k hk hn => h.block k hk (fun hz' => hn (hz k hk hz'))⟩
theorem Turn.drewN (h : Turn Z a b) (n : Nat) : Turn Z a (b.drewN n) := ⟨h.os, h.tape, h.output, h.size, h.block⟩
theorem Turn.alloc (h : Turn Z a b) (o : Obj) : Turn Z a (b.alloc o) := h.trans ⟨rfl, rfl, rfl, by simp, fun k hk _ => Below.heap_alloc b o k hk⟩
theorem Turn.set_ (h : Turn Z a b) (p : Addr) (u : Value) (hp : Z p.block) : Turn Z a (b.setCell p u) := h.trans ⟨rfl, rfl, rfl, by simp, fun k _ hk => Below.heap_setCell b _ u k (fun e => hk (e ▸ hp))⟩
theorem Turn.grown (h : Turn Z a b) {row : Option Nat} (hg : b.grownBy c row) (hr : ∀ k, row = some k → k < a.heap.size → Z k) : Turn Z a c :=
  ⟨hg.os.trans h.os, hg.tape.trans h.tape, hg.output.trans h.output, Nat.le_trans h.size hg.size, fun k hk hkg => (hg.block k (Nat.lt_of_lt_of_le hk h.size) (fun he => hkg (hr k he.symm hk))).trans (h.block k hk hkg)⟩
theorem Turn.of_below (h : Below a.heap.size a b) : Turn Z a b := ⟨h.os, h.tape, h.output, h.size, fun k hk _ => h.block k hk⟩
theorem Turn.below (h : Turn Z a b) {B : Nat} (hB : B ≤ a.heap.size) (hz : ∀ k, k < B → ¬ Z k) : Below B a b := ⟨h.os, h.tape, h.output, h.size, fun k hk => h.block k (by omega) (hz k hk)⟩
theorem Turn.blk (h : Turn Z a b) {k : Nat} {t : TypeId} {cs : Array Value} (hb : Blk a k t cs) (hk : ¬ Z k) : Blk b k t cs := (h.block k hb.lt hk).trans hb
theorem Turn.own (h : Turn Z a b) {base n s : Nat} {e : TypeId} {v : Value} {xs : List Value} (ho : a.ownsRow base e s v n xs) (hg : ∀ g, v.ownBlock = some g → ¬ Z g) : b.ownsRow base e s v n xs := by
  refine ⟨ho.1, ?_⟩
  rcases ho.2 with h2 | ⟨g', cap, cur, hv, hb, hh, r⟩
  · exact Or.inl h2
  · have hlt := (ho.lt g' (by rw [hv]; rfl)).2
    exact Or.inr ⟨g', cap, cur, hv, hb, (h.block g' hlt (hg g' (by rw [hv]; rfl))).trans hh, r⟩
theorem Turn.map (h : Turn Z a b) {k : TypeId} {R : Value → Option (DataW Unit × List MemPlace)} {g n : Nat} {D : DataW Unit} (ho : a.ownsMap Tryz.prog k R g n D) (hg : ¬ Z g) : b.ownsMap Tryz.prog k R g n D := by
  have hlt := ho.lt
  obtain ⟨es, clock, hb, r⟩ := ho
  exact ⟨es, clock, (h.block g hlt hg).trans hb, r⟩
theorem Turn.has (h : Turn Z a b) {A : Option Addr} {xs : List Value} {B : Nat} (hh : Has a B A xs) (hg : ∀ ad, A = some ad → ¬ Z ad.block) : Has b B A xs := fun j u hj => by
  obtain ⟨ad, e, hlt, hc⟩ := hh j u hj
  refine ⟨ad, e, hlt, (World.cell?_of_block (w := a) ?_).trans hc⟩
  rw [addr_block]
  have := block_lt hc
  rw [addr_block] at this
  exact h.block ad.block this (hg ad e)
end

theorem has_zone {w w' : World} {Z : Nat → Prop} {B : Nat} {A : Option Addr} {xs : List Value} (h : Has w B A xs) (ht : Turn Z w w') (hz : ∀ k, k < B → ¬ Z k) : Has w' B A xs := fun j u hj => by
  obtain ⟨ad, e, hlt, hc⟩ := h j u hj
  refine ⟨ad, e, hlt, (World.cell?_of_block (w := w) ?_).trans hc⟩
  rw [addr_block]
  have := block_lt hc
  rw [addr_block] at this
  exact ht.block ad.block this (hz _ hlt)
theorem has_apart {w w' : World} {Z : Nat → Prop} {B : Nat} {A : Option Addr} {xs : List Value} (h : Has w B A xs) (ht : Turn Z w w') (hz : ∀ ad, A = some ad → xs ≠ [] → ¬ Z ad.block) : Has w' B A xs := fun j u hj => by
  obtain ⟨ad, e, hlt, hc⟩ := h j u hj
  refine ⟨ad, e, hlt, (World.cell?_of_block (w := w) ?_).trans hc⟩
  rw [addr_block]
  have := block_lt hc
  rw [addr_block] at this
  exact ht.block ad.block this (hz ad e (fun e => by rw [e] at hj; simp at hj))
/-- The notary in block nb, its map in block bm, tells the list. -/
structure Nt (w : World) (nb bm : Nat) (l : List Deed) : Prop where
  blk : Blk w nb 116 #[.map (some bm)]
  map : ∃ D, w.ownsMap Tryz.prog 161 (plainElem Tryz.prog 3) bm l.length D ∧ Book D l
theorem Nt.kept {w w' : World} {Z : Nat → Prop} {nb bm : Nat} {l : List Deed} (h : Nt w nb bm l) (ht : Turn Z w w') (h1 : ¬ Z nb) (h2 : ¬ Z bm) : Nt w' nb bm l := by
  obtain ⟨D, h3, h4⟩ := h.map
  exact ⟨ht.blk h.blk h1, D, ht.map h3 h2, h4⟩
theorem Nt.drewN {w : World} {nb bm : Nat} {l : List Deed} (h : Nt w nb bm l) (n : Nat) : Nt (w.drewN n) nb bm l := h.kept ((Turn.refl (fun _ => False) w).drewN n) id id
theorem Nt.below {w w' : World} {nb bm : Nat} {l : List Deed} (h : Nt w nb bm l) (ht : Below w.heap.size w w') : Nt w' nb bm l := h.kept (Turn.of_below (Z := fun _ => False) ht) id id
theorem Nt.lt {w : World} {nb bm : Nat} {l : List Deed} (h : Nt w nb bm l) : nb < w.heap.size ∧ bm < w.heap.size := ⟨h.blk.lt, h.map.elim fun _ h => h.1.lt⟩
theorem Nt.ne {w : World} {nb bm : Nat} {l : List Deed} (h : Nt w nb bm l) : nb ≠ bm := by
  rintro rfl
  obtain ⟨D, ⟨es, clock, hb, _⟩, _⟩ := h.map
  have := h.blk
  unfold Blk at this
  rw [hb] at this
  cases this
theorem zero_int (w : World) : (zeroValue 3).run Tryz.prog w = .ok (.int .i64 0) w := by kernel_rfl
set_option maxRecDepth 100000 in
/-- What a look-up in its map tells. -/
theorem Nt.look {w : World} {nb bm : Nat} {l : List Deed} (h : Nt w nb bm l) {d : Deed} (hd : d.Fits) :
    (Instr.lookup 114 (.map (some bm)) (.agg #[.int .i64 d.1, .string d.2]) true).run Tryz.prog w = .ok (.tuple #[.int .i64 (findS l d), .bool (decide (d ∈ l))]) w := by
  obtain ⟨D, h1, h2⟩ := h.map
  obtain ⟨v, ps, hrun, hv⟩ := h1.look_ok deed_law Tryz.underlying114 (zero_int w) (plainElem_int Tryz.underlying3 (by decide)) (keyOf_deed hd)
  obtain ⟨c, rfl, hc, _⟩ := plainElem_int_inv Tryz.underlying3 hv
  rw [h2.has d hd] at hrun
  have h3 := h2.at_ d hd
  simp only [Prod.mk.injEq] at hc
  rw [show D.atKey d.lit (.lit (.int .i64 0)) = i64D (findS l d) from h3] at hc
  have : findS l d = c := by injection hc.1 with h4; injection h4
  subst this
  exact hrun

set_option maxHeartbeats 400000 in
theorem new_any (w : World) : Calls Tryz.prog 51 #[] w fun e w' => ∃ nb bm, e = .returned (.pointer (some ⟨nb, 0, none⟩)) ∧ Nt w' nb bm [] ∧ w.heap.size ≤ nb ∧ w.heap.size ≤ bm ∧ Below w.heap.size w w' := by
  have hmm := @run_makeMap Tryz.prog
  go_enter Tryz.func51, Tryz.ntmps51
  go_wp2
  go_ret
  have h1 : (w.alloc (.map #[] 0)).heap.size = w.heap.size + 1 := by simp
  refine ⟨_, _, rfl, ⟨Blk.new1 w _ _ _, _, ?_, Book.empty⟩, Nat.le_succ _, Nat.le_refl _, ((Below.refl _ _).alloc (Nat.le_refl _) _).alloc (by rw [h1]; omega) _⟩
  exact (World.ownsMap_made w _ _ _).alloc _

set_option maxHeartbeats 400000 in
theorem find_any {w : World} {nb bm : Nat} {l : List Deed} (h : Nt w nb bm l) {p : Int} (hp : fit p) {A : Option Addr} {n c B : Nat} {zs : List Int} (hh : Has w B A (u8s zs)) (hn : zs.length = n) (hm : n ≤ maxLen) :
    Calls Tryz.prog 117 #[.pointer (some ⟨nb, 0, none⟩), .int .i64 p, .slice A n c] w fun e w' => e = .returned (.tuple #[.int .i64 (findS l (p, strOfNums zs)), .bool (decide ((p, strOfNums zs) ∈ l))]) ∧ ∃ m, w' = w.drewN m := by
  have hfit : Deed.Fits (p, strOfNums zs) := ⟨hp, by rw [str_size, hn]; exact hm⟩
  obtain ⟨s, hs⟩ : ∃ s, strOfNums zs = s := ⟨_, rfl⟩
  have hc := fun k => conv_has (w := w.drewN k) (c := c) (hh.drewN k) hn
  rw [hs] at hc hfit ⊢
  have hl := fun k => (h.drewN k).look hfit
  obtain ⟨x, hx⟩ : ∃ x, findS l (p, s) = x := ⟨_, rfl⟩
  obtain ⟨y, hy⟩ : ∃ y, decide ((p, s) ∈ l) = y := ⟨_, rfl⟩
  rw [hx, hy] at hl ⊢
  have hcell := h.blk.cell 0
  simp only [List.getElem?_toArray, List.getElem?_cons_zero] at hcell
  clear hx hy hs hh h hfit hp
  go_enter Tryz.func117, Tryz.ntmps117
  go_wp2
  go_quiet (fail)
  go_wp2
  go_ret2
  exact ⟨rfl, _, rfl⟩

theorem len_any {w : World} {nb bm : Nat} {l : List Deed} (h : Nt w nb bm l) :
    Calls Tryz.prog 22 #[.pointer (some ⟨nb, 0, none⟩)] w fun e w' => e = .returned (.int .i64 (l.length : Int)) ∧ w = w' := by
  have hcell := h.blk.cell 0
  simp only [List.getElem?_toArray, List.getElem?_cons_zero] at hcell
  obtain ⟨D, h1, h2⟩ := h.map
  have hlen := h1.len Tryz.underlying114 3
  rw [h2.size] at hlen
  clear h h1 h2
  go_enter Tryz.func22, Tryz.ntmps22
  go_wp2
  go_ret
  exact ⟨rfl, rfl⟩

theorem million_lt {n : Nat} (h : n ≤ 1000000) : n < maxLen := by unfold maxLen; omega
/-- What Check tells. -/
def checkS (l : List Deed) (d : Deed) (k : Int) : Bool := decide (d ∈ l) && decide (findS l d = k)
set_option maxHeartbeats 400000 in
theorem check_any {w : World} {nb bm : Nat} {l : List Deed} (h : Nt w nb bm l) {p k : Int} (hp : fit p) {A : Option Addr} {n c B : Nat} {zs : List Int} (hh : Has w B A (u8s zs)) (hn : zs.length = n) (hm : n ≤ maxLen) :
    Calls Tryz.prog 57 #[.pointer (some ⟨nb, 0, none⟩), .int .i64 p, .slice A n c, .int .i64 k] w fun e w' => e = .returned (.bool (checkS l (p, strOfNums zs) k)) ∧ ∃ m, w' = w.drewN m := by
  have HC := Lib.hid (find_any h hp hh hn hm (c := c))
  obtain ⟨s, hs⟩ : ∃ s, strOfNums zs = s := ⟨_, rfl⟩
  rw [hs] at HC ⊢
  have HX := Lib.hid (show checkS l (p, s) k = (decide ((p, s) ∈ l) && decide (findS l (p, s) = k)) from rfl)
  rw [HX.out]
  clear h hh hs hp
  by_cases hy : decide ((p, s) ∈ l) = true
  · rw [hy] at HC ⊢
    go_enter Tryz.func57, Tryz.ntmps57
    go_wp2_with fail
    refine HC.out.mono ?_
    rintro e w' ⟨rfl, m, rfl⟩
    go_wp2_with fail
    go_ret
    exact ⟨rfl, _, rfl⟩
  · rw [Bool.not_eq_true] at hy
    rw [hy] at HC ⊢
    go_enter Tryz.func57, Tryz.ntmps57
    go_wp2_with fail
    refine HC.out.mono ?_
    rintro e w' ⟨rfl, m, rfl⟩
    go_wp2_with fail
    go_ret
    exact ⟨rfl, _, rfl⟩

set_option maxHeartbeats 400000 in
theorem seal_any {w : World} {nb bm : Nat} {l : List Deed} (h : Nt w nb bm l) (hlen : l.length ≤ 1000000) {p : Int} (hp : fit p) {A : Option Addr} {n c B : Nat} {zs : List Int} (hh : Has w B A (u8s zs)) (hn : zs.length = n) (hm : n ≤ maxLen) :
    Calls Tryz.prog 55 #[.pointer (some ⟨nb, 0, none⟩), .int .i64 p, .slice A n c] w fun e w' => e = .returned (.int .i64 (sealS l (p, strOfNums zs))) ∧ Nt w' nb bm (sealed l (p, strOfNums zs)) ∧ Turn (fun k => k = bm) w w' := by
  have hfit : Deed.Fits (p, strOfNums zs) := ⟨hp, by rw [str_size, hn]; exact hm⟩
  have HC := Lib.hid (find_any h hp hh hn hm (c := c))
  have HH := Lib.hid hh
  obtain ⟨s, hs⟩ : ∃ s, strOfNums zs = s := ⟨_, rfl⟩
  rw [hs] at HC hfit ⊢
  by_cases hy : (p, s) ∈ l
  · rw [decide_eq_true hy, findS_in hy] at HC
    have HN := Lib.hid h
    have HF := Lib.hid (sealed_in hy)
    have HS := Lib.hid (show (idx l (p, s) : Int) + 1 = sealS l (p, s) from rfl)
    clear h hh hfit hy
    go_enter Tryz.func55, Tryz.ntmps55
    go_wp2_with fail
    refine HC.out.mono ?_
    rintro e w' ⟨rfl, m, rfl⟩
    go_wp2_with fail
    go_ret
    rw [HS.out, HF.out]
    exact ⟨rfl, HN.out.drewN m, (Turn.refl _ _).drewN m⟩
  · rw [decide_eq_false hy, findS_out hy] at HC
    have HY := Lib.hid hy
    have HFit := Lib.hid hfit
    have HS := Lib.hid (sealS_out hy)
    have HA := Lib.hid (sealed_out hy)
    have HN := Lib.hid h
    have HZ := Lib.hid hs
    clear h hh hfit hy hs
    go_enter Tryz.func55, Tryz.ntmps55
    go_wp2_with fail
    refine HC.out.mono ?_
    rintro e w' ⟨rfl, m, rfl⟩
    go_wp2_with fail
    refine (len_any (HN.out.drewN m)).mono ?_
    rintro e w' ⟨rfl, rfl⟩
    have hcell := fun k => (HN.out.drewN k).blk.cell 0
    simp only [List.getElem?_toArray, List.getElem?_cons_zero] at hcell
    have hconv := fun k => conv_has (w := w.drewN k) (c := c) (HH.out.drewN k) hn
    rw [HZ.out] at hconv
    obtain ⟨D, h1, h2⟩ := (HN.out.drewN (m + 1)).map
    have hput := h2.put (h1.tidy deed_law) HFit.out HY.out
    have HV : (Lit.int .i64 ((l.length : Int) + 1)).wf = true := WalkArith.wf_i64 (by omega)
    obtain ⟨w2, hrun, ho2, hg2⟩ := h1.update deed_law Tryz.underlying114 (million_lt hlen) (keyOf_deed HFit.out) (plainElem_int Tryz.underlying3 HV)
    have hrun : (Instr.mapUpdate 114 (.map (some bm)) (.agg #[.int .i64 p, .string s]) (.int .i64 ((l.length : Int) + 1))).run Tryz.prog (w.drewN (m + 1)) = .ok () w2 := hrun
    have ht0 : Turn (fun k => k = bm) w (w.drewN (m + 1)) := (Turn.refl _ w).drewN (m + 1)
    have ht1 : Turn (fun k => k = bm) w w2 := Turn.grown ht0 hg2 (fun k hk _ => (Option.some.inj hk).symm)
    have HT := Lib.hid ht1
    have HR := Lib.hid (show Nt w2 nb bm (l ++ [(p, s)]) from ⟨HT.out.blk HN.out.blk HN.out.ne, _, by rw [List.length_append]; exact ho2, hput⟩)
    clear hput ho2 hg2 h1 h2 ht0 ht1
    go_wp2_with fail
    go_region
    go_wp2_with fail
    go_ret
    rw [HS.out, HA.out]
    exact ⟨rfl, HR.out, HT.out⟩
end Go.Proofs.YtbebfgfpdcdcoaaGreat
