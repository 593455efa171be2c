/- psephoslaw09's plain clock: find and drop. (Printed by tools/plain9.py.) -/
import Derived.Test.YtdljbmjjdjbopaaClockOne
import Derived.Test.YtdljbmjjdjbopaaRefNot
import Derived.Test.YtdljbmjjdjbopaaHeldLast
import Derived.Deep.RegionHeld3
import Derived.Deep.DeepCutAuto
namespace Go.Proofs.Ytdljbmjjdjbopaa
open Go.RowKit Go.Maps Go.Sort
set_option linter.unusedSimpArgs false
set_option linter.unusedVariables false

/-- The law's plain clock in block pb: the ids and their times. -/
structure Pl (B : Nat) (w : World) (pb : Nat) (now : Int) (L : List (Int × Int)) : Prop where
  ex : ∃ v1 v2, Blk w pb 40 #[.int .i64 now, v1, v2] ∧ w.ownsRow B 3 1 v1 L.length (ics (L.map Prod.fst)) ∧ w.ownsRow B 3 1 v2 L.length (ics (L.map Prod.snd))
/-- No row of ints lies in that block. -/
def NotRow (w : World) (x : Nat) : Prop := ∀ B v n xs, w.ownsRow B 3 1 v n xs → v.ownBlock ≠ some x
theorem NotRow.blk {w : World} {x : Nat} {t : TypeId} {cs : Array Value} (h : Blk w x t cs) (ht : 3 ≠ t) : NotRow w x := fun _ _ _ _ ho => own_blk_ne ho h ht
theorem NotRow.map {w : World} {x n : Nat} {D : DataW Unit} {k : TypeId} {R : Value → Option (DataW Unit × List MemPlace)} (h : w.ownsMap Try.prog k R x n D) : NotRow w x := fun _ v _ _ ho he => by
  obtain ⟨es, clock, hb, _⟩ := h
  rcases ho.2 with ⟨rfl, _⟩ | ⟨g, cap, cur, rfl, _, hh, _⟩
  · cases he
  · have : g = x := by simpa [Value.ownBlock] using he
    subst this
    rw [hb] at hh
    cases hh
section
variable {B : Nat} {w w' : World} {pb : Nat} {now : Int} {L : List (Int × Int)}
theorem Pl.kept {x : Nat} (h : Pl B w pb now L) (ht : Turn (fun k => k = x) w w') (hx : x ≠ pb) (hn : NotRow w x) : Pl B w' pb now L := by
  obtain ⟨v1, v2, hb, h1, h2⟩ := h.ex
  exact ⟨v1, v2, ht.blk hb (fun e => hx e.symm), ht.own h1 (fun g hg e => hn _ _ _ _ h1 (by rw [hg, e])), ht.own h2 (fun g hg e => hn _ _ _ _ h2 (by rw [hg, e]))⟩
theorem Pl.below (h : Pl B w pb now L) (hb : Below w.heap.size w w') : Pl B w' pb now L := by
  obtain ⟨v1, v2, hk, h1, h2⟩ := h.ex
  have ht : Turn (fun _ => False) w w' := Turn.of_below hb
  exact ⟨v1, v2, ht.blk hk id, ht.own h1 (fun _ _ => id), ht.own h2 (fun _ _ => id)⟩
theorem Pl.drewN (h : Pl B w pb now L) (n : Nat) : Pl B (w.drewN n) pb now L := h.below (below_drewN (Below.refl _ _) n)
theorem Pl.lt (h : Pl B w pb now L) : pb < w.heap.size := h.ex.elim fun _ h => h.elim fun _ h => h.1.lt
theorem Pl.notRow (h : Pl B w pb now L) : NotRow w pb := h.ex.elim fun _ h => h.elim fun _ h => NotRow.blk h.1 (by decide)
end
/-- What find tells. -/
def Fi (L : List (Int × Int)) (p r : Int) : Prop := (r = -1 ∧ p ∉ L.map Prod.fst) ∨ ∃ i : Nat, r = i ∧ (L.map Prod.fst)[i]? = some p
set_option maxHeartbeats 1000000 in
theorem pfind_any {B : Nat} {w : World} {pb : Nat} {now : Int} {L : List (Int × Int)} (h : Pl B w pb now L) (hn : L.length ≤ 1000000) (p : Int) :
    Calls Try.prog 20 #[.pointer (some ⟨pb, 0, none⟩), .int .i64 p] w fun e w' => ∃ r, e = .returned (.int .i64 r) ∧ Fi L p r ∧ w = w' := by
  obtain ⟨v1, v2, hb, h1, h2⟩ := h.ex
  obtain ⟨A, c, rfl, _, _⟩ := own_slice h1
  have hc1 := hb.cell 1
  simp only [List.getElem?_toArray, List.getElem?_cons_zero, List.getElem?_cons_succ] at hc1
  have HH := Lib.hid (Has.own h1)
  have HN := Lib.hid hn
  clear h hb h1 h2
  obtain ⟨n, hL⟩ : ∃ n, L.length = n := ⟨_, rfl⟩
  have HL := Lib.hid (show (L.map Prod.fst).length = n by rw [List.length_map, hL])
  rw [hL] at hc1 hn
  clear hL
  go_enter Try.func20, Try.ntmps20
  go_wp2_with fail
  go_loopw [11] (fun v wr => ∃ k : Nat, v = .int .i64 (k : Int) ∧ k ≤ n ∧ Hid (p ∉ (L.map Prod.fst).take k) ∧ wr = w) (fun v _ => n - (intOf v).toNat)
  case atStart => exact ⟨0, rfl, Nat.zero_le _, Lib.hid (by simp), rfl⟩
  case round =>
    obtain ⟨k, rfl, hk, HP, rfl⟩ := hrel
    by_cases hlt : k < n
    · obtain ⟨q, hq⟩ : ∃ q, (L.map Prod.fst)[k]? = some q := ⟨_, List.getElem?_eq_getElem (by rw [HL.out]; exact hlt)⟩
      obtain ⟨ad, rfl, _, hc⟩ := HH.out k _ (ics_at hq)
      have HQ := Lib.hid hq
      clear hq
      by_cases e : q = p
      · subst e
        go_wp2_with fail
        go_ret
        exact ⟨_, rfl, Or.inr ⟨k, rfl, HQ.out⟩, rfl⟩
      · have HP2 := Lib.hid (show p ∉ (L.map Prod.fst).take (k + 1) by
          rw [List.take_add_one, HQ.out]
          intro hm
          rcases List.mem_append.1 hm with hm | hm
          · exact HP.out hm
          · simp at hm; exact e hm.symm)
        go_wp2_with fail
        go_roundw
        case rel => exact ⟨k + 1, by go_num, by omega, HP2, trivial⟩
        case measure => simp [intOf]; omega
    · obtain rfl : k = n := by omega
      go_wp2_with fail
      go_ret
      refine ⟨_, rfl, Or.inl ⟨rfl, ?_⟩, rfl⟩
      have h := HP.out
      rwa [List.take_of_length_le (by rw [HL.out]; exact Nat.le_refl _)] at h
theorem own_low9 {w : World} {b b' n s : Nat} {e : TypeId} {v : Value} {xs : List Value} (h : w.ownsRow b e s v n xs) (hb : b' ≤ b) : w.ownsRow b' e s v n xs := by
  refine ⟨h.1, ?_⟩
  rcases h.2 with h2 | ⟨g, cap, cur, hv, hg, r⟩
  · exact Or.inl h2
  · exact Or.inr ⟨g, cap, cur, hv, Nat.le_trans hb hg, r⟩
/-! ### Slices of ints -/
def tailI (A : Option Addr) (c k : Nat) : Option Addr := if c = k then A else A.map fun x => x.add k
set_option maxRecDepth 100000 in
theorem islice_head {w : World} (A : Option Addr) {n c k : Nat} (h : k ≤ c) : (Instr.slice 22 (.slice A n c) none (some (.int .i64 k)) none).run Try.prog w = .ok (.slice A k c) w := by
  rw [run_slice_h w 22 A n c Try.underlying22 .i64 k (by omega) (by omega)]
  have : (sizeOf (Try.prog.elem 22)).run Try.prog w = .ok 1 w := by kernel_rfl
  rw [this]
  show Result.ok (sliced A 0 (k : Int).toNat c 1) w = _
  unfold sliced
  cases A with
  | none => simp
  | some a => simp [Addr.add]
set_option maxRecDepth 100000 in
theorem islice_tail {w : World} (A : Option Addr) {n c k : Nat} (h : k ≤ n) : (Instr.slice 22 (.slice A n c) (some (.int .i64 k)) none none).run Try.prog w = .ok (.slice (tailI A c k) (n - k) (c - k)) w := by
  rw [run_slice_l w 22 A n c Try.underlying22 .i64 k (by omega) (by omega)]
  have : (sizeOf (Try.prog.elem 22)).run Try.prog w = .ok 1 w := by kernel_rfl
  rw [this]
  show Result.ok (sliced A (k : Int).toNat n c 1) w = _
  unfold sliced tailI
  simp
theorem ics_take (l : List Int) (k : Nat) : ics (l.take k) = (ics l).take k := by simp [ics, List.map_take]
theorem ics_drop (l : List Int) (k : Nat) : ics (l.drop k) = (ics l).drop k := by simp [ics, List.map_drop]
theorem ihas_head {w : World} {B : Nat} {A : Option Addr} {l : List Int} (h : Has w B A (ics l)) (k : Nat) : Has w B A (ics (l.take k)) := fun j u hj => by
  rw [ics_take, List.getElem?_take] at hj
  split at hj
  · exact h j u hj
  · cases hj
theorem ihas_tail {w : World} {B c k : Nat} {A : Option Addr} {l : List Int} (h : Has w B A (ics l)) (hc : l.length ≤ c) : Has w B (tailI A c k) (ics (l.drop k)) := fun j u hj => by
  unfold tailI
  by_cases e : c = k
  · rw [List.drop_eq_nil_of_le (by omega)] at hj
    simp [ics] at hj
  · rw [if_neg e]
    rw [ics_drop, List.getElem?_drop] at hj
    obtain ⟨ad, rfl, hb, hcell⟩ := h _ u hj
    exact ⟨ad.add k, rfl, by rw [addr_block]; exact hb, by rw [addr_add]; exact hcell⟩
theorem tailI_none {A : Option Addr} {c k : Nat} (h : A = none → c = 0) (e : tailI A c k = none) : c - k = 0 := by
  unfold tailI at e
  cases A with
  | none => rw [h rfl]; omega
  | some a =>
    split at e
    · cases e
    · cases e
/-- keep.Copy at ints: a row of the call's own with the same ints. -/
theorem copy_ints (A : Option Addr) (c n B : Nat) (zs : List Int) (w : World) (hl : zs.length = n) (hm : n ≤ 1000000) (hh : Has w B A (ics zs)) (hn : A = none → c = 0) :
    Calls Try.prog 22 #[.slice A n c] w fun e w' => ∃ v, e = .returned v ∧ w'.ownsRow w.heap.size 3 1 v n (ics zs) ∧ Below w.heap.size w w' := by
  obtain ⟨i0, hi, hz0, hz1, hz2⟩ := info_parts cinfo_int
  subst hl
  have HH := Lib.hid hh
  have HN := Lib.hid hn
  clear hh hn
  go_enter Try.func22, Try.ntmps22
  go_wp2_with (at_builtin; refine wpList_app2 rfl _ _ 22 rfl w.heap.size 3 i0 (.int .i64 0) 8 Try.underlying22 hi hz0 hz1 hz2 rfl _ 0 [] rfl (World.ownsRow_nil _ _ _ _) B A _ c (ics zs) rfl (ics_len zs) HH.out HN.out (ics_one zs) (by unfold maxLen; omega) (by omega) (Nat.le_refl _) ?_)
  intro v w1 ho hg _
  have HO := Lib.hid ho
  have HG := Lib.hid hg
  clear ho hg
  go_wp2
  go_ret
  exact ⟨v, rfl, by simpa using HO.out, (Below.refl _ _).grown HG.out (Nat.le_refl _) (fun k hk => by cases hk)⟩
theorem cut_ics (l : List Int) (k : Nat) : ics (l.take k) ++ ics (l.drop (k + 1)) = ics (l.eraseIdx k) := by
  rw [← ics_app, List.eraseIdx_eq_take_drop_succ]
theorem map_erase {α β : Type} (f : α → β) (l : List α) (k : Nat) : (l.map f).eraseIdx k = (l.eraseIdx k).map f := by
  rw [List.eraseIdx_eq_take_drop_succ, List.eraseIdx_eq_take_drop_succ, List.map_append, List.map_take, List.map_drop]

set_option maxHeartbeats 8000000 in
set_option maxRecDepth 100000 in
theorem pdrop_any {B : Nat} {w : World} {pb : Nat} {now : Int} {L : List (Int × Int)} {i : Nat} (h : Pl B w pb now L) (hB : B ≤ w.heap.size) (hn : L.length ≤ 1000000) (hi : i < L.length) :
    Calls Try.prog 21 #[.pointer (some ⟨pb, 0, none⟩), .int .i64 (i : Int)] w fun e w' => e = .returned (.tuple #[]) ∧ Pl B w' pb now (L.eraseIdx i) ∧ Turn (fun k => k = pb) w w' := by
  obtain ⟨i0, hi0, hx0, hx1, hx2⟩ := info_parts cinfo_int
  obtain ⟨v1, v2, HPb0, h1, h2⟩ := h.ex
  have HI := Lib.hid hi
  have HLn := Lib.hid hn
  have HB := Lib.hid hB
  clear h hi hn hB
  have hi := hi0
  clear hi0
  go_enter Try.func21, Try.ntmps21
  go_wp2_with fail
  obtain ⟨A, c, rfl, hnc, hcm⟩ := own_slice h1
  have hcj := HPb0.cell 1
  simp only [List.getElem?_toArray, List.getElem?_cons_zero, List.getElem?_cons_succ] at hcj
  have HPb := Lib.hid HPb0
  have HRow := Lib.hid h1
  have HOther := Lib.hid h2
  have HHas := Lib.hid (Has.own h1)
  have HAn := Lib.hid (own_none0 h1)
  obtain ⟨zs, hzs⟩ : ∃ zs, L.map Prod.fst = zs := ⟨_, rfl⟩
  obtain ⟨n, hn⟩ : ∃ n, L.length = n := ⟨_, rfl⟩
  have HZs := Lib.hid hzs
  have HNn := Lib.hid hn
  have hzl : zs.length = n := by rw [← hzs, List.length_map, hn]
  have HZl := Lib.hid hzl
  rw [hzs] at HHas
  rw [hn] at hcj hnc HLn HPb
  have hin : i < n := by rw [← hn]; exact HI.out
  have hn9 := HLn.out
  have R1 := fun (w : World) => islice_head (w := w) A (n := n) (c := c) (k := i) (by omega)
  have R2 : ∀ w : World, (Instr.slice 22 (.slice A n c) (some (.int .i64 ((i : Int) + 1))) none none).run Try.prog w = .ok (.slice (tailI A c (i + 1)) (n - (i + 1)) (c - (i + 1))) w := fun w => by
    rw [show ((i : Int) + 1) = ((i + 1 : Nat) : Int) by omega]
    exact islice_tail (w := w) A (n := n) (c := c) (k := i + 1) (by omega)
  have HCp := Lib.hid (copy_ints A c i w.heap.size (zs.take i) w.drew (by rw [List.length_take]; omega) (by omega) ((ihas_head HHas.out i).drew) HAn.out)
  have HTl := Lib.hid (ihas_tail (k := i + 1) HHas.out (show zs.length ≤ c by omega))
  have HTn := Lib.hid (fun e => tailI_none (A := A) (c := c) (k := i + 1) HAn.out e)
  have HTL := Lib.hid (show (ics (zs.drop (i + 1))).length = n - (i + 1) by rw [ics_len, List.length_drop, hzl])
  have HM1 := Lib.hid (show i + (n - (i + 1)) ≤ maxLen by unfold maxLen; omega)
  have HM2 := Lib.hid (show (i + (n - (i + 1))) * 8 ≤ 140737488355328 by omega)
  have HE := Lib.hid (show i + (n - (i + 1)) = n - 1 by omega)
  have hwi : IntKind.i64.wrap ((i : Int) + 1) = (i : Int) + 1 := IntWalk.i64_in _ ⟨by omega, by omega⟩
  clear HPb0 h1 h2 hzs hn hzl
  refine wpL_region (S := fun w' => w'.cell? ⟨pb, 1, none⟩ = some (.slice A n c)) (z := 18) (n := 19) (d := #[false, false, false, false, false, false, false, false, false, false, false, false, false, false, false, false, false, false, false]) (by kernel_rfl) (by rfl) (by rfl) (hcj) (fun hHeld => ?_)
  refine wpL_take (i := 0) (v := ?_) rfl (by kernel_rfl) (by kernel_rfl) (by kernel_rfl) (by kernel_rfl) (fun _ _ _ h => h) (Or.inl ⟨by rfl, ?_⟩) (by assumption) ?_
  rotate_left
  · (intro w hSw; (try dsimp only at hSw); first | (go_simp; done) | (go_simp; with_reducible rfl))
  try simp only [Act.put, List.setIfInBounds_toArray, List.set_cons_zero, List.set_cons_succ]
  refine wpL_take (i := 1) (v := ?_) rfl (by kernel_rfl) (by kernel_rfl) (by kernel_rfl) (by kernel_rfl) (fun _ _ _ h => h) (Or.inl ⟨by rfl, ?_⟩) (by assumption) ?_
  rotate_left
  · (intro w hSw; (try dsimp only at hSw); first | (go_simp; done) | (go_simp; with_reducible rfl))
  try simp only [Act.put, List.setIfInBounds_toArray, List.set_cons_zero, List.set_cons_succ]
  refine wpL_take (i := 2) (v := ?_) rfl (by kernel_rfl) (by kernel_rfl) (by kernel_rfl) (by kernel_rfl) (fun _ _ _ h => h) (Or.inl ⟨by rfl, ?_⟩) (by assumption) ?_
  rotate_left
  · (intro w hSw; (try dsimp only at hSw); first | (go_simp; done) | (go_simp; with_reducible rfl))
  try simp only [Act.put, List.setIfInBounds_toArray, List.set_cons_zero, List.set_cons_succ]
  refine wpL_take (i := 3) (v := ?_) rfl (by kernel_rfl) (by kernel_rfl) (by kernel_rfl) (by kernel_rfl) (fun _ _ _ h => h) (Or.inl ⟨by rfl, ?_⟩) (by assumption) ?_
  rotate_left
  · (intro w hSw; (try dsimp only at hSw); first | (go_simp; done) | (go_simp; with_reducible rfl))
  try simp only [Act.put, List.setIfInBounds_toArray, List.set_cons_zero, List.set_cons_succ]
  refine wpL_take (i := 4) (v := ?_) rfl (by kernel_rfl) (by kernel_rfl) (by kernel_rfl) (by kernel_rfl) (fun _ _ _ h => h) (Or.inl ⟨by rfl, ?_⟩) (by assumption) ?_
  rotate_left
  · (intro w hSw; (try dsimp only at hSw); first | (go_simp; done) | (go_simp; with_reducible rfl))
  try simp only [Act.put, List.setIfInBounds_toArray, List.set_cons_zero, List.set_cons_succ]
  refine wpL_take (i := 5) (v := ?_) rfl (by kernel_rfl) (by kernel_rfl) (by kernel_rfl) (by kernel_rfl) (fun _ _ _ h => h) (Or.inl ⟨by rfl, ?_⟩) (by assumption) ?_
  rotate_left
  · (intro w hSw; (try dsimp only at hSw); first | (go_simp; done) | (go_simp; with_reducible rfl))
  try simp only [Act.put, List.setIfInBounds_toArray, List.set_cons_zero, List.set_cons_succ]
  refine wpL_take (i := 6) (v := ?_) rfl (by kernel_rfl) (by kernel_rfl) (by kernel_rfl) (by kernel_rfl) (fun _ _ _ h => h) (Or.inl ⟨by rfl, ?_⟩) (by assumption) ?_
  rotate_left
  · (intro w hSw; (try dsimp only at hSw); first | (go_simp; done) | (go_simp; with_reducible rfl))
  try simp only [Act.put, List.setIfInBounds_toArray, List.set_cons_zero, List.set_cons_succ]
  refine wpL_take (i := 8) (v := ?_) rfl (by kernel_rfl) (by kernel_rfl) (by kernel_rfl) (by kernel_rfl) (fun _ _ _ h => h) (Or.inl ⟨by rfl, ?_⟩) (by assumption) ?_
  rotate_left
  · (intro w hSw; (try dsimp only at hSw); first | (go_simp; done) | (go_simp; with_reducible rfl))
  try simp only [Act.put, List.setIfInBounds_toArray, List.set_cons_zero, List.set_cons_succ]
  refine wpL_take (i := 9) (v := ?_) rfl (by kernel_rfl) (by kernel_rfl) (by kernel_rfl) (by kernel_rfl) (fun _ _ _ h => h) (Or.inl ⟨by rfl, ?_⟩) (by assumption) ?_
  rotate_left
  · (intro w hSw; (try dsimp only at hSw); first | (go_simp; done) | (go_simp; with_reducible rfl))
  try simp only [Act.put, List.setIfInBounds_toArray, List.set_cons_zero, List.set_cons_succ]
  refine wpL_take (i := 10) (v := ?_) rfl (by kernel_rfl) (by kernel_rfl) (by kernel_rfl) (by kernel_rfl) (fun _ _ _ h => h) (Or.inl ⟨by rfl, ?_⟩) (by assumption) ?_
  rotate_left
  · (intro w hSw; (try dsimp only at hSw); first | (go_simp; done) | (go_simp; with_reducible rfl))
  try simp only [Act.put, List.setIfInBounds_toArray, List.set_cons_zero, List.set_cons_succ]
  refine wpL_take (i := 11) (v := ?_) rfl (by kernel_rfl) (by kernel_rfl) (by kernel_rfl) (by kernel_rfl) (fun _ _ _ h => h) (Or.inl ⟨by rfl, ?_⟩) (by assumption) ?_
  rotate_left
  · (intro w hSw; (try dsimp only at hSw); first | (go_simp; done) | (go_simp; with_reducible rfl))
  try simp only [Act.put, List.setIfInBounds_toArray, List.set_cons_zero, List.set_cons_succ]
  refine wpL_take (i := 12) (v := ?_) rfl (by kernel_rfl) (by kernel_rfl) (by kernel_rfl) (by kernel_rfl) (fun _ _ _ h => h) (Or.inl ⟨by rfl, ?_⟩) (by assumption) ?_
  rotate_left
  · (intro w hSw; (try dsimp only at hSw); first | (go_simp; done) | (go_simp; with_reducible rfl))
  try simp only [Act.put, List.setIfInBounds_toArray, List.set_cons_zero, List.set_cons_succ]
  refine wpL_take (i := 13) (v := ?_) rfl (by kernel_rfl) (by kernel_rfl) (by kernel_rfl) (by kernel_rfl) (fun _ _ _ h => h) (Or.inl ⟨by rfl, ?_⟩) (by assumption) ?_
  rotate_left
  · (intro w hSw; (try dsimp only at hSw); first | (go_simp; done) | (go_simp; with_reducible rfl))
  try simp only [Act.put, List.setIfInBounds_toArray, List.set_cons_zero, List.set_cons_succ]
  refine wpL_take (i := 14) (v := ?_) rfl (by kernel_rfl) (by kernel_rfl) (by kernel_rfl) (by kernel_rfl) (fun _ _ _ h => h) (Or.inl ⟨by rfl, ?_⟩) (by assumption) ?_
  rotate_left
  · (intro w hSw; (try dsimp only at hSw); first | (go_simp; done) | (go_simp; with_reducible rfl))
  try simp only [Act.put, List.setIfInBounds_toArray, List.set_cons_zero, List.set_cons_succ]
  refine wpL_ready (rs := [7]) (by kernel_rfl) (by simp) ?_
  refine AllL.cons rfl (fun K hK => ?_) AllL.nil
  go_simp
  go_at_call 22
  refine HCp.out.mono ?_
  rintro e w5 ⟨x1, rfl, ho1, hb5⟩
  obtain ⟨A1, c1, rfl, -, -⟩ := own_slice ho1
  have hb5w : Below w.heap.size w w5 := (Below.refl _ w).drew.trans hb5
  have hk5 := Blk.below HPb.out hb5w HPb.out.lt
  have q2 := Blk.cell hk5 1
  simp only [List.getElem?_toArray, List.getElem?_cons_zero, List.getElem?_cons_succ] at q2
  try (go_wp2_with fail)
  refine hK.out _ _ (fun _ => q2) (fun hHeld => ?_)
  clear hK K
  have hHeld := hHeld (by decide)
  try simp only [Act.put, List.setIfInBounds_toArray, List.set_cons_zero, List.set_cons_succ]
  refine wpL_ready (rs := [15]) (by kernel_rfl) (by simp) ?_
  refine AllL.cons rfl (fun K hK => ?_) AllL.nil
  refine step_app (w := w5) rfl (.tmp 11) (.tmp 18) 22 rfl w.drew.heap.size 3 i0 (.int .i64 0) 8 Try.underlying22 hi hx0 hx1 hx2 rfl (.slice A1 i c1) i (ics (zs.take i)) rfl ho1 w.heap.size (tailI A c (i + 1)) (n - (i + 1)) (c - (i + 1)) (ics (zs.drop (i + 1))) rfl HTL.out (HTl.out.below hb5w (Nat.le_refl _)) HTn.out (ics_one _) HM1.out HM2.out hb5.size ?_
  intro vb w6 hob hgb hlb
  obtain ⟨Ab, cb', rfl, -, -⟩ := own_slice hob
  have hb6 : Below w.heap.size w w6 := hb5w.grown hgb hb5w.size (fun g hg => (ho1.lt g hg).1)
  have hk6 := Blk.below HPb.out hb6 HPb.out.lt
  have q6 := Blk.cell hk6 1
  have r6 := Blk.frozen hk6 1
  simp only [List.getElem?_toArray, List.getElem?_cons_zero, List.getElem?_cons_succ] at q6
  refine hK.out _ _ (fun _ => q6) (fun hHeld => ?_)
  clear hK K
  have hHeld := hHeld (by decide)
  try simp only [Act.put, List.setIfInBounds_toArray, List.set_cons_zero, List.set_cons_succ]
  refine wpL_ready (rs := [16]) (by kernel_rfl) (by simp) ?_
  refine AllL.cons rfl (fun K hK => ?_) AllL.nil
  go_simp
  refine hK.out _ _ (fun _ => q6) (fun hHeld => ?_)
  clear hK K
  have hHeld := hHeld (by decide)
  try simp only [Act.put, List.setIfInBounds_toArray, List.set_cons_zero, List.set_cons_succ]
  refine wpL_ready (rs := [17]) (by kernel_rfl) (by simp) ?_
  refine AllL.cons rfl (fun K hK => ?_) AllL.nil
  go_simp
  refine hK.out _ _ (fun _ => q6) (fun hHeld => ?_)
  clear hK K
  have hHeld := hHeld (by decide)
  try simp only [Act.put, List.setIfInBounds_toArray, List.set_cons_zero, List.set_cons_succ]
  refine wpL_ready (rs := [18]) (by kernel_rfl) (by simp) ?_
  refine AllL.cons rfl (fun K hK => ?_) AllL.nil
  go_simp
  refine hK.out _ _ (fun _ => absurd rfl ‹_›) (fun hHeld => ?_)
  clear hK K
  try simp only [Act.put, List.setIfInBounds_toArray, List.set_cons_zero, List.set_cons_succ]
  refine wpL_done (by kernel_rfl) ?_ _

  have hne6 := own_blk_ne hob hk6 (by decide)
  have hb67 : Below w.heap.size w w6 := hb6
  have hO6 := below_own HOther.out hb6 (Nat.le_refl _)
  have hneo := own_blk_ne hO6 hk6 (by decide)
  have HBk7 := Lib.hid (hk6.set_ 1 (.slice Ab (i + (n - (i + 1))) cb'))
  have HR7 := Lib.hid (own_low9 (own_far hob (p := ⟨pb, 1, none⟩) hne6 (.slice Ab (i + (n - (i + 1))) cb')) HB.out)
  have HO7 := Lib.hid (own_far hO6 (p := ⟨pb, 1, none⟩) hneo (.slice Ab (i + (n - (i + 1))) cb'))
  have HT7 := Lib.hid (show Turn (fun k => k = pb) w (w6.setCell ⟨pb, 1, none⟩ (.slice Ab (i + (n - (i + 1))) cb')) from (Turn.of_below hb6).set_ _ _ rfl)
  rw [cut_ics, ← HZs.out, map_erase] at HR7
  simp only [List.setIfInBounds_toArray, List.set_cons_zero, List.set_cons_succ] at HBk7
  obtain ⟨w7, hw7⟩ : ∃ w7, w6.setCell ⟨pb, 1, none⟩ (.slice Ab (i + (n - (i + 1))) cb') = w7 := ⟨_, rfl⟩
  rw [hw7] at HBk7 HR7 HO7 HT7 ⊢
  have HEe := Lib.hid (show (L.eraseIdx i).length = i + (n - (i + 1)) by rw [List.length_eraseIdx_of_lt HI.out, HNn.out]; have := HI.out; have := HNn.out; omega)
  have HLn := Lib.hid (show L.length ≤ 1000000 by have := HLn.out; have := HNn.out; omega)
  have HB7 := Lib.hid (show B ≤ w7.heap.size by have := HB.out; have := HT7.out.size; omega)
  clear hw7 hneo hO6 hb67 hne6 q6 r6 hk6 hb6 hgb hlb hob q2 hk5 hb5w ho1 hb5 R1 R2 hwi hin hn9 hcj hnc hcm
  go_wp2_with fail
  have HPb9 := HBk7.out
  have h91 := HO7.out
  have h92 := HR7.out
  obtain ⟨A, c, rfl, hnc, hcm⟩ := own_slice h91
  have hcj := HPb9.cell 2
  simp only [List.getElem?_toArray, List.getElem?_cons_zero, List.getElem?_cons_succ] at hcj
  have HPb := Lib.hid HPb9
  have HRow := Lib.hid h91
  have HOther := Lib.hid h92
  have HHas := Lib.hid (Has.own h91)
  have HAn := Lib.hid (own_none0 h91)
  obtain ⟨zs, hzs⟩ : ∃ zs, L.map Prod.snd = zs := ⟨_, rfl⟩
  obtain ⟨n, hn⟩ : ∃ n, L.length = n := ⟨_, rfl⟩
  have HZs := Lib.hid hzs
  have HNn := Lib.hid hn
  have hzl : zs.length = n := by rw [← hzs, List.length_map, hn]
  have HZl := Lib.hid hzl
  rw [hzs] at HHas
  rw [hn] at hcj hnc HLn HPb
  have hin : i < n := by rw [← hn]; exact HI.out
  have hn9 := HLn.out
  have R1 := fun (w : World) => islice_head (w := w) A (n := n) (c := c) (k := i) (by omega)
  have R2 : ∀ w : World, (Instr.slice 22 (.slice A n c) (some (.int .i64 ((i : Int) + 1))) none none).run Try.prog w = .ok (.slice (tailI A c (i + 1)) (n - (i + 1)) (c - (i + 1))) w := fun w => by
    rw [show ((i : Int) + 1) = ((i + 1 : Nat) : Int) by omega]
    exact islice_tail (w := w) A (n := n) (c := c) (k := i + 1) (by omega)
  have HCp := Lib.hid (copy_ints A c i w7.heap.size (zs.take i) w7.drew (by rw [List.length_take]; omega) (by omega) ((ihas_head HHas.out i).drew) HAn.out)
  have HTl := Lib.hid (ihas_tail (k := i + 1) HHas.out (show zs.length ≤ c by omega))
  have HTn := Lib.hid (fun e => tailI_none (A := A) (c := c) (k := i + 1) HAn.out e)
  have HTL := Lib.hid (show (ics (zs.drop (i + 1))).length = n - (i + 1) by rw [ics_len, List.length_drop, hzl])
  have HM1 := Lib.hid (show i + (n - (i + 1)) ≤ maxLen by unfold maxLen; omega)
  have HM2 := Lib.hid (show (i + (n - (i + 1))) * 8 ≤ 140737488355328 by omega)
  have HE := Lib.hid (show i + (n - (i + 1)) = n - 1 by omega)
  have hwi : IntKind.i64.wrap ((i : Int) + 1) = (i : Int) + 1 := IntWalk.i64_in _ ⟨by omega, by omega⟩
  clear HPb9 h91 h92 hzs hn hzl
  refine wpL_region (S := fun w' => w'.cell? ⟨pb, 2, none⟩ = some (.slice A n c)) (z := 18) (n := 19) (d := #[false, false, false, false, false, false, false, false, false, false, false, false, false, false, false, false, false, false, false]) (by kernel_rfl) (by rfl) (by rfl) (hcj) (fun hHeld => ?_)
  refine wpL_take (i := 0) (v := ?_) rfl (by kernel_rfl) (by kernel_rfl) (by kernel_rfl) (by kernel_rfl) (fun _ _ _ h => h) (Or.inl ⟨by rfl, ?_⟩) (by assumption) ?_
  rotate_left
  · (intro w hSw; (try dsimp only at hSw); first | (go_simp; done) | (go_simp; with_reducible rfl))
  try simp only [Act.put, List.setIfInBounds_toArray, List.set_cons_zero, List.set_cons_succ]
  refine wpL_take (i := 1) (v := ?_) rfl (by kernel_rfl) (by kernel_rfl) (by kernel_rfl) (by kernel_rfl) (fun _ _ _ h => h) (Or.inl ⟨by rfl, ?_⟩) (by assumption) ?_
  rotate_left
  · (intro w hSw; (try dsimp only at hSw); first | (go_simp; done) | (go_simp; with_reducible rfl))
  try simp only [Act.put, List.setIfInBounds_toArray, List.set_cons_zero, List.set_cons_succ]
  refine wpL_take (i := 2) (v := ?_) rfl (by kernel_rfl) (by kernel_rfl) (by kernel_rfl) (by kernel_rfl) (fun _ _ _ h => h) (Or.inl ⟨by rfl, ?_⟩) (by assumption) ?_
  rotate_left
  · (intro w hSw; (try dsimp only at hSw); first | (go_simp; done) | (go_simp; with_reducible rfl))
  try simp only [Act.put, List.setIfInBounds_toArray, List.set_cons_zero, List.set_cons_succ]
  refine wpL_take (i := 3) (v := ?_) rfl (by kernel_rfl) (by kernel_rfl) (by kernel_rfl) (by kernel_rfl) (fun _ _ _ h => h) (Or.inl ⟨by rfl, ?_⟩) (by assumption) ?_
  rotate_left
  · (intro w hSw; (try dsimp only at hSw); first | (go_simp; done) | (go_simp; with_reducible rfl))
  try simp only [Act.put, List.setIfInBounds_toArray, List.set_cons_zero, List.set_cons_succ]
  refine wpL_take (i := 4) (v := ?_) rfl (by kernel_rfl) (by kernel_rfl) (by kernel_rfl) (by kernel_rfl) (fun _ _ _ h => h) (Or.inl ⟨by rfl, ?_⟩) (by assumption) ?_
  rotate_left
  · (intro w hSw; (try dsimp only at hSw); first | (go_simp; done) | (go_simp; with_reducible rfl))
  try simp only [Act.put, List.setIfInBounds_toArray, List.set_cons_zero, List.set_cons_succ]
  refine wpL_take (i := 5) (v := ?_) rfl (by kernel_rfl) (by kernel_rfl) (by kernel_rfl) (by kernel_rfl) (fun _ _ _ h => h) (Or.inl ⟨by rfl, ?_⟩) (by assumption) ?_
  rotate_left
  · (intro w hSw; (try dsimp only at hSw); first | (go_simp; done) | (go_simp; with_reducible rfl))
  try simp only [Act.put, List.setIfInBounds_toArray, List.set_cons_zero, List.set_cons_succ]
  refine wpL_take (i := 6) (v := ?_) rfl (by kernel_rfl) (by kernel_rfl) (by kernel_rfl) (by kernel_rfl) (fun _ _ _ h => h) (Or.inl ⟨by rfl, ?_⟩) (by assumption) ?_
  rotate_left
  · (intro w hSw; (try dsimp only at hSw); first | (go_simp; done) | (go_simp; with_reducible rfl))
  try simp only [Act.put, List.setIfInBounds_toArray, List.set_cons_zero, List.set_cons_succ]
  refine wpL_take (i := 8) (v := ?_) rfl (by kernel_rfl) (by kernel_rfl) (by kernel_rfl) (by kernel_rfl) (fun _ _ _ h => h) (Or.inl ⟨by rfl, ?_⟩) (by assumption) ?_
  rotate_left
  · (intro w hSw; (try dsimp only at hSw); first | (go_simp; done) | (go_simp; with_reducible rfl))
  try simp only [Act.put, List.setIfInBounds_toArray, List.set_cons_zero, List.set_cons_succ]
  refine wpL_take (i := 9) (v := ?_) rfl (by kernel_rfl) (by kernel_rfl) (by kernel_rfl) (by kernel_rfl) (fun _ _ _ h => h) (Or.inl ⟨by rfl, ?_⟩) (by assumption) ?_
  rotate_left
  · (intro w hSw; (try dsimp only at hSw); first | (go_simp; done) | (go_simp; with_reducible rfl))
  try simp only [Act.put, List.setIfInBounds_toArray, List.set_cons_zero, List.set_cons_succ]
  refine wpL_take (i := 10) (v := ?_) rfl (by kernel_rfl) (by kernel_rfl) (by kernel_rfl) (by kernel_rfl) (fun _ _ _ h => h) (Or.inl ⟨by rfl, ?_⟩) (by assumption) ?_
  rotate_left
  · (intro w hSw; (try dsimp only at hSw); first | (go_simp; done) | (go_simp; with_reducible rfl))
  try simp only [Act.put, List.setIfInBounds_toArray, List.set_cons_zero, List.set_cons_succ]
  refine wpL_take (i := 11) (v := ?_) rfl (by kernel_rfl) (by kernel_rfl) (by kernel_rfl) (by kernel_rfl) (fun _ _ _ h => h) (Or.inl ⟨by rfl, ?_⟩) (by assumption) ?_
  rotate_left
  · (intro w hSw; (try dsimp only at hSw); first | (go_simp; done) | (go_simp; with_reducible rfl))
  try simp only [Act.put, List.setIfInBounds_toArray, List.set_cons_zero, List.set_cons_succ]
  refine wpL_take (i := 12) (v := ?_) rfl (by kernel_rfl) (by kernel_rfl) (by kernel_rfl) (by kernel_rfl) (fun _ _ _ h => h) (Or.inl ⟨by rfl, ?_⟩) (by assumption) ?_
  rotate_left
  · (intro w hSw; (try dsimp only at hSw); first | (go_simp; done) | (go_simp; with_reducible rfl))
  try simp only [Act.put, List.setIfInBounds_toArray, List.set_cons_zero, List.set_cons_succ]
  refine wpL_take (i := 13) (v := ?_) rfl (by kernel_rfl) (by kernel_rfl) (by kernel_rfl) (by kernel_rfl) (fun _ _ _ h => h) (Or.inl ⟨by rfl, ?_⟩) (by assumption) ?_
  rotate_left
  · (intro w hSw; (try dsimp only at hSw); first | (go_simp; done) | (go_simp; with_reducible rfl))
  try simp only [Act.put, List.setIfInBounds_toArray, List.set_cons_zero, List.set_cons_succ]
  refine wpL_take (i := 14) (v := ?_) rfl (by kernel_rfl) (by kernel_rfl) (by kernel_rfl) (by kernel_rfl) (fun _ _ _ h => h) (Or.inl ⟨by rfl, ?_⟩) (by assumption) ?_
  rotate_left
  · (intro w hSw; (try dsimp only at hSw); first | (go_simp; done) | (go_simp; with_reducible rfl))
  try simp only [Act.put, List.setIfInBounds_toArray, List.set_cons_zero, List.set_cons_succ]
  refine wpL_ready (rs := [7]) (by kernel_rfl) (by simp) ?_
  refine AllL.cons rfl (fun K hK => ?_) AllL.nil
  go_simp
  go_at_call 22
  refine HCp.out.mono ?_
  rintro e w5 ⟨x1, rfl, ho1, hb5⟩
  obtain ⟨A1, c1, rfl, -, -⟩ := own_slice ho1
  have hb5w : Below w7.heap.size w7 w5 := (Below.refl _ w7).drew.trans hb5
  have hk5 := Blk.below HPb.out hb5w HPb.out.lt
  have q2 := Blk.cell hk5 2
  simp only [List.getElem?_toArray, List.getElem?_cons_zero, List.getElem?_cons_succ] at q2
  try (go_wp2_with fail)
  refine hK.out _ _ (fun _ => q2) (fun hHeld => ?_)
  clear hK K
  have hHeld := hHeld (by decide)
  try simp only [Act.put, List.setIfInBounds_toArray, List.set_cons_zero, List.set_cons_succ]
  refine wpL_ready (rs := [15]) (by kernel_rfl) (by simp) ?_
  refine AllL.cons rfl (fun K hK => ?_) AllL.nil
  refine step_app (w := w5) rfl (.tmp 29) (.tmp 36) 22 rfl w7.drew.heap.size 3 i0 (.int .i64 0) 8 Try.underlying22 hi hx0 hx1 hx2 rfl (.slice A1 i c1) i (ics (zs.take i)) rfl ho1 w7.heap.size (tailI A c (i + 1)) (n - (i + 1)) (c - (i + 1)) (ics (zs.drop (i + 1))) rfl HTL.out (HTl.out.below hb5w (Nat.le_refl _)) HTn.out (ics_one _) HM1.out HM2.out hb5.size ?_
  intro vb w6 hob hgb hlb
  obtain ⟨Ab, cb', rfl, -, -⟩ := own_slice hob
  have hb6 : Below w7.heap.size w7 w6 := hb5w.grown hgb hb5w.size (fun g hg => (ho1.lt g hg).1)
  have hk6 := Blk.below HPb.out hb6 HPb.out.lt
  have q6 := Blk.cell hk6 2
  have r6 := Blk.frozen hk6 2
  simp only [List.getElem?_toArray, List.getElem?_cons_zero, List.getElem?_cons_succ] at q6
  refine hK.out _ _ (fun _ => q6) (fun hHeld => ?_)
  clear hK K
  have hHeld := hHeld (by decide)
  try simp only [Act.put, List.setIfInBounds_toArray, List.set_cons_zero, List.set_cons_succ]
  refine wpL_ready (rs := [16]) (by kernel_rfl) (by simp) ?_
  refine AllL.cons rfl (fun K hK => ?_) AllL.nil
  go_simp
  refine hK.out _ _ (fun _ => q6) (fun hHeld => ?_)
  clear hK K
  have hHeld := hHeld (by decide)
  try simp only [Act.put, List.setIfInBounds_toArray, List.set_cons_zero, List.set_cons_succ]
  refine wpL_ready (rs := [17]) (by kernel_rfl) (by simp) ?_
  refine AllL.cons rfl (fun K hK => ?_) AllL.nil
  go_simp
  refine hK.out _ _ (fun _ => q6) (fun hHeld => ?_)
  clear hK K
  have hHeld := hHeld (by decide)
  try simp only [Act.put, List.setIfInBounds_toArray, List.set_cons_zero, List.set_cons_succ]
  refine wpL_ready (rs := [18]) (by kernel_rfl) (by simp) ?_
  refine AllL.cons rfl (fun K hK => ?_) AllL.nil
  go_simp
  refine hK.out _ _ (fun _ => absurd rfl ‹_›) (fun hHeld => ?_)
  clear hK K
  try simp only [Act.put, List.setIfInBounds_toArray, List.set_cons_zero, List.set_cons_succ]
  refine wpL_done (by kernel_rfl) ?_ _
  have hne6 := own_blk_ne hob hk6 (by decide)
  have hO6 := below_own HOther.out hb6 (Nat.le_refl _)
  have hneo := own_blk_ne hO6 hk6 (by decide)
  have HBk8 := Lib.hid (hk6.set_ 2 (.slice Ab (i + (n - (i + 1))) cb'))
  have HR8 := Lib.hid (own_low9 (own_far hob (p := ⟨pb, 2, none⟩) hne6 (.slice Ab (i + (n - (i + 1))) cb')) HB7.out)
  have HO8 := Lib.hid (own_far hO6 (p := ⟨pb, 2, none⟩) hneo (.slice Ab (i + (n - (i + 1))) cb'))
  have HT8 := Lib.hid (show Turn (fun k => k = pb) w7 (w6.setCell ⟨pb, 2, none⟩ (.slice Ab (i + (n - (i + 1))) cb')) from (Turn.of_below hb6).set_ _ _ rfl)
  rw [cut_ics, ← HZs.out, map_erase] at HR8
  simp only [List.setIfInBounds_toArray, List.set_cons_zero, List.set_cons_succ] at HBk8
  have HEf := Lib.hid (show (L.eraseIdx i).length = i + (n - (i + 1)) by rw [List.length_eraseIdx_of_lt HI.out, HNn.out]; have := HI.out; have := HNn.out; omega)
  obtain ⟨w8, hw8⟩ : ∃ w8, w6.setCell ⟨pb, 2, none⟩ (.slice Ab (i + (n - (i + 1))) cb') = w8 := ⟨_, rfl⟩
  rw [hw8] at HBk8 HR8 HO8 HT8 ⊢
  clear hw8 hneo hO6 hne6 q6 r6 hk6 hb6 hgb hlb hob q2 hk5 hb5w ho1 hb5
  go_wp2_with fail
  first | (refine bodyPost_end (results_none rfl _ _ _) rfl ?_) | (refine bodyPost_ret (results_none rfl _ _ _) rfl ?_)
  exact ⟨rfl, ⟨_, _, HBk8.out, by rw [HEe.out]; exact HO8.out, by rw [HEf.out]; exact HR8.out⟩, HT7.out.trans HT8.out⟩
end Go.Proofs.Ytdljbmjjdjbopaa

