/- The contracts of package link, first part: New, Len, Lost, has, full, Peek. -/
import Derived.Test.YtpopchigboacaaaRefSeal
import Derived.Test.YtpopchigboacaaaStrLaid
import Derived.Test.YtpopchigboacaaaRowCells
import Derived.Lib.ConvBytes
namespace Go.Proofs.Ytpopchigboacaaa
open Go.RowKit Go.Sort
set_option linter.unusedSimpArgs false
set_option linter.unusedVariables false

def strV (z : List Int) : Value := .string (strOfNums z)
/-- Bytes that a queue may hold. -/
structure By (z : List Int) : Prop where
  len : z.length ≤ 65536
  fit : ∀ x ∈ z, 0 ≤ x ∧ x ≤ 255
theorem strs_len (L : List (List Int)) : (L.map strV).length = L.length := by simp
theorem strs_one (L : List (List Int)) : ∀ u ∈ L.map strV, u.oneCell' = true := by
  intro u hu
  obtain ⟨z, _, rfl⟩ := List.mem_map.1 hu
  rfl
theorem strs_app (L : List (List Int)) (z : List Int) : (L ++ [z]).map strV = L.map strV ++ [strV z] := by simp
/-- The queue in block qb, its row, in the zone R. -/
structure Qu (R : Nat → Prop) (w : World) (qb : Nat) (room lost : Int) (L : List (List Int)) : Prop where
  zone : R qb
  r1 : 1 ≤ room
  r2 : room ≤ 256
  len : (L.length : Int) ≤ room
  good : ∀ z ∈ L, By z
  ex : ∃ v, Blk w qb 54 #[.int .i64 room, v, .int .i64 lost] ∧ w.ownsRow 0 9 1 v L.length (L.map strV) ∧ ∀ g, v.ownBlock = some g → R g
/-- Those blocks of the zone that can be a queue's. -/
def QZ (R : Nat → Prop) (w : World) (k : Nat) : Prop := R k ∧ ∃ cs fr t, w.heap[k]? = some (.cells cs t fr) ∧ (t = 54 ∨ t = 9)
theorem qz_blk {R : Nat → Prop} {w : World} {k : Nat} {t : TypeId} {cs : Array Value} (h : Blk w k t cs) (h1 : t ≠ 54) (h2 : t ≠ 9) : ¬ QZ R w k := by
  rintro ⟨_, cs', fr, t', he, ht⟩
  unfold Blk at h
  rw [h] at he
  injection he with he
  injection he with _ he
  subst he
  exact ht.elim h1 h2
theorem qz_own {R : Nat → Prop} {w : World} {base n s : Nat} {t : TypeId} {v : Value} {xs : List Value} (h : w.ownsRow base t s v n xs) (h1 : t ≠ 54) (h2 : t ≠ 9) (g : Nat) (hg : v.ownBlock = some g) : ¬ QZ R w g := by
  rcases h.2 with ⟨rfl, _⟩ | ⟨g', cap, cur, rfl, _, hh, _⟩
  · cases hg
  · have : g' = g := Option.some.inj hg
    subst this
    exact qz_blk (show Blk w g' t cur from hh) h1 h2
theorem qz_in {R : Nat → Prop} {w : World} {base n s qb : Nat} {v : Value} {xs : List Value} {cs : Array Value} (hR : R qb) (hb : Blk w qb 54 cs) (ho : w.ownsRow base 9 s v n xs) (hz : ∀ g, v.ownBlock = some g → R g) {k : Nat} (hk : k = qb ∨ v.ownBlock = some k) : QZ R w k := by
  rcases hk with rfl | hk
  · exact ⟨hR, cs, _, _, hb, Or.inl rfl⟩
  · rcases ho.2 with ⟨rfl, _⟩ | ⟨g', cap, cur, rfl, _, hh, _⟩
    · cases hk
    · have : g' = k := Option.some.inj hk
      subst this
      exact ⟨hz _ rfl, cur, _, _, hh, Or.inr rfl⟩
section
variable {R R' : Nat → Prop} {w w' : World} {qb : Nat} {room lost : Int} {L : List (List Int)}
theorem Qu.lt (h : Qu R w qb room lost L) : qb < w.heap.size := by
  obtain ⟨_, h1, _⟩ := h.ex
  exact h1.lt
theorem Qu.mono (h : Qu R w qb room lost L) (hz : ∀ k, k < w.heap.size → R k → R' k) : Qu R' w qb room lost L := by
  obtain ⟨v, h1, h2, h3⟩ := h.ex
  exact ⟨hz _ h.lt h.zone, h.r1, h.r2, h.len, h.good, v, h1, h2, fun g hg => hz g (h2.lt g hg).2 (h3 g hg)⟩
theorem Qu.kept {Z : Nat → Prop} (h : Qu R w qb room lost L) (ht : Turn Z w w') (hz : ∀ k, k < w.heap.size → QZ R w k → ¬ Z k) : Qu R w' qb room lost L := by
  obtain ⟨v, h1, h2, h3⟩ := h.ex
  exact ⟨h.zone, h.r1, h.r2, h.len, h.good, v, ht.blk h1 (hz _ h.lt (qz_in h.zone h1 h2 h3 (Or.inl rfl))), ht.own h2 (fun g hg => hz g (h2.lt g hg).2 (qz_in h.zone h1 h2 h3 (Or.inr hg))), h3⟩
theorem Qu.below (h : Qu R w qb room lost L) (hb : Below w.heap.size w w') : Qu R w' qb room lost L := h.kept (Turn.of_below (Z := fun _ => False) hb) (fun _ _ _ => id)
theorem Qu.drewN (h : Qu R w qb room lost L) (n : Nat) : Qu R (w.drewN n) qb room lost L := h.kept ((Turn.refl (fun _ => False) w).drewN n) (fun _ _ _ => id)
end

set_option maxHeartbeats 400000 in
theorem qnew_any {room : Int} (h1 : 1 ≤ room) (h2 : room ≤ 256) (w : World) :
    Calls Try.prog 18 #[.int .i64 room] w fun e w' => e = .returned (.tuple #[.pointer (some ⟨w.heap.size, 0, none⟩), .int .i64 0]) ∧ Qu (fun k => w.heap.size ≤ k) w' w.heap.size room 0 [] ∧ Below w.heap.size w w' := by
  have a1 : decide (room < 1) = false := by simp; omega
  have a2 : decide (256 < room) = false := by simp; omega
  have H1 := Lib.hid h1
  have H2 := Lib.hid h2
  clear h1 h2
  go_enter Try.func18, Try.ntmps18
  go_wp2
  go_ret2
  exact ⟨rfl, ⟨Nat.le_refl _, H1.out, H2.out, by have := H1.out; simp; omega, by simp, _, Blk.new _ _ _, World.ownsRow_nil _ _ _ _, fun g hg => by cases hg⟩, (Below.refl _ _).alloc (Nat.le_refl _) _⟩
set_option maxHeartbeats 400000 in
theorem qnew_bad {room : Int} (h : room < 1 ∨ 256 < room) (w : World) :
    Calls Try.prog 18 #[.int .i64 room] w fun e w' => e = .returned (.tuple #[.pointer none, .int .i64 1]) ∧ w = w' := by
  by_cases h1 : room < 1
  · clear h
    go_enter Try.func18, Try.ntmps18
    go_wp2
    go_ret2
    exact ⟨rfl, rfl⟩
  · have h2 : 256 < room := by omega
    clear h
    go_enter Try.func18, Try.ntmps18
    go_wp2
    go_ret2
    exact ⟨rfl, rfl⟩
set_option maxHeartbeats 400000 in
theorem qlen_any {R : Nat → Prop} {w : World} {qb : Nat} {room lost : Int} {L : List (List Int)} (h : Qu R w qb room lost L) :
    Calls Try.prog 13 #[.pointer (some ⟨qb, 0, none⟩)] w fun e w' => e = .returned (.int .i64 (L.length : Int)) ∧ w = w' := by
  obtain ⟨v, h1, h2, h3⟩ := h.ex
  obtain ⟨A, c, rfl, _, _⟩ := own_slice h2
  have hc := h1.cell 1
  simp only [List.getElem?_toArray, List.getElem?_cons_zero, List.getElem?_cons_succ] at hc
  clear h h1 h2 h3
  go_enter Try.func13, Try.ntmps13
  go_wp2
  go_ret
  exact ⟨rfl, rfl⟩
set_option maxHeartbeats 400000 in
theorem qlost_any {R : Nat → Prop} {w : World} {qb : Nat} {room lost : Int} {L : List (List Int)} (h : Qu R w qb room lost L) :
    Calls Try.prog 14 #[.pointer (some ⟨qb, 0, none⟩)] w fun e w' => e = .returned (.int .i64 lost) ∧ w = w' := by
  obtain ⟨v, h1, h2, h3⟩ := h.ex
  have hc := h1.cell 2
  simp only [List.getElem?_toArray, List.getElem?_cons_zero, List.getElem?_cons_succ] at hc
  clear h h1 h2 h3
  go_enter Try.func14, Try.ntmps14
  go_wp2
  go_ret
  exact ⟨rfl, rfl⟩
/-- Is there such an element? -/
def hasB (L : List (List Int)) (k : Int) : Bool := decide (0 ≤ k) && decide (k < (L.length : Int))
set_option maxHeartbeats 400000 in
theorem qhas_any {R : Nat → Prop} {w : World} {qb : Nat} {room lost : Int} {L : List (List Int)} (h : Qu R w qb room lost L) (k : Int) :
    Calls Try.prog 24 #[.pointer (some ⟨qb, 0, none⟩), .int .i64 k] w fun e w' => e = .returned (.bool (hasB L k)) ∧ w = w' := by
  have HC := Lib.hid (qlen_any h)
  have HE := Lib.hid (show hasB L k = (decide (0 ≤ k) && decide (k < (L.length : Int))) from rfl)
  obtain ⟨n, hn⟩ : ∃ n : Int, (L.length : Int) = n := ⟨_, rfl⟩
  rw [HE.out]
  rw [hn] at HC ⊢
  clear h hn
  by_cases h0 : 0 ≤ k
  · have h1 : decide (0 ≤ k) = true := decide_eq_true h0
    go_enter Try.func24, Try.ntmps24
    go_wp2_with fail
    refine HC.out.mono ?_
    rintro e w' ⟨rfl, rfl⟩
    go_wp2_with fail
    go_ret
    simp [h0]
  · have h1 : decide (0 ≤ k) = false := decide_eq_false h0
    go_enter Try.func24, Try.ntmps24
    go_wp2_with fail
    go_ret
    simp [h0]
set_option maxHeartbeats 400000 in
theorem qfull_any {R : Nat → Prop} {w : World} {qb : Nat} {room lost : Int} {L : List (List Int)} (h : Qu R w qb room lost L) :
    Calls Try.prog 27 #[.pointer (some ⟨qb, 0, none⟩)] w fun e w' => e = .returned (.bool (decide ((L.length : Int) = room))) ∧ ∃ m, w' = w.drewN m := by
  obtain ⟨v, h1, h2, h3⟩ := h.ex
  have hc := h1.cell 0
  simp only [List.getElem?_toArray, List.getElem?_cons_zero, List.getElem?_cons_succ] at hc
  have HC := Lib.hid (fun m => (qlen_any (h.drewN m)).mono (R' := fun e w' => e = .returned (.int .i64 (L.length : Int)) ∧ w' = w.drewN m) fun _ _ h => ⟨h.1, h.2.symm⟩)
  obtain ⟨n, hn⟩ : ∃ n : Int, (L.length : Int) = n := ⟨_, rfl⟩
  rw [hn] at HC ⊢
  clear h h1 h2 h3
  go_enter Try.func27, Try.ntmps27
  go_wp2_with fail
  go_quiet ((go_at_call 13; exact Calls.quiet_of_same (HC.out _)))
  go_wp2_with fail
  go_ret
  exact ⟨rfl, _, rfl⟩

/-- Bytes in a block of the call's own: nothing of it is frozen. -/
structure Bytes (w : World) (g : Nat) (z : List Int) : Prop where
  has : Has w (g + 1) (some ⟨g, 0, none⟩) (u8s z)
  soft : ∀ j, j < z.length → w.frozen? ⟨g, j, none⟩ = false
  row : ∃ cs fr, w.heap[g]? = some (.cells cs 5 fr)
theorem nums_back {z : List Int} (h : By z) (j : Nat) (hj : j < z.length) : (((strOfNums z).data.toList.getD j 0).toNat : Int) = z[j] := by
  have hx := h.fit z[j] (List.getElem_mem hj)
  simp [strOfNums, List.getD, hj]
  omega
theorem conv_back {z : List Int} (h : By z) (w : World) :
    ∃ c, (convert 9 27 (strV z)).run Try.prog w = .ok (.slice (some ⟨w.heap.size, 0, none⟩) z.length c) (Lib.bytesWorld w 5 (strOfNums z)) ∧ Bytes (Lib.bytesWorld w 5 (strOfNums z)) w.heap.size z ∧ Below w.heap.size w (Lib.bytesWorld w 5 (strOfNums z)) := by
  have hs := str_size z
  refine ⟨grownCap w (strOfNums z).size 0 5, ?_, ⟨fun j u hj => ?_, fun j hj => ?_, ⟨_, _, Lib.bytesWorld_at_new w _ _⟩⟩, ⟨rfl, rfl, rfl, by rw [Lib.bytesWorld_size]; omega, fun k hk => Lib.bytesWorld_at_old w _ _ k hk⟩⟩
  · have := Lib.run_convert_string_bytes (P := Try.prog) w 9 27 5 (strOfNums z) Try.underlying9 Try.underlying27 Try.underlying5
    rw [hs] at this
    rw [hs]
    exact this
  · have hl : j < z.length := by
      have := (List.getElem?_eq_some_iff.1 hj).1
      rwa [u8s_len] at this
    refine ⟨_, rfl, Nat.lt_succ_self _, ?_⟩
    rw [addr_at, Lib.bytesWorld_cell _ _ _ _ (by rw [hs]; exact hl), nums_back h j hl]
    rw [← hj]
    simp [u8s, hl]
  · unfold World.frozen?
    rw [Lib.bytesWorld_at_new]
    have h1 : z.length ≤ (Lib.bytesCells w 5 (strOfNums z)).size := by
      have h2 : (strOfNums z).data.size = z.length := hs
      simp [Lib.bytesCells, h2]
    simp
    omega
theorem Bytes.lt {w : World} {g : Nat} {z : List Int} (h : Bytes w g z) : g < w.heap.size := by
  obtain ⟨cs, fr, hb⟩ := h.row
  exact (Array.getElem?_eq_some_iff.1 hb).1
theorem Bytes.drewN {w : World} {g : Nat} {z : List Int} (h : Bytes w g z) (n : Nat) : Bytes (w.drewN n) g z := ⟨h.has.drewN n, h.soft, h.row⟩
theorem Bytes.set_ {w : World} {g : Nat} {z : List Int} (h : Bytes w g z) (j : Nat) (u : Int) : Bytes (w.setCell ⟨g, j, none⟩ (.int .u8 u)) g (z.set j u) := by
  obtain ⟨cs, fr, hb⟩ := h.row
  have hb2 : (w.setCell ⟨g, j, none⟩ (.int .u8 u)).heap[g]? = some (.cells (cs.setIfInBounds j (.int .u8 u)) 5 fr) := by simp [World.setCell, Array.getElem?_modify, hb]
  refine ⟨fun i v hi => ?_, fun i hi => ?_, _, _, hb2⟩
  · have hil : i < z.length := by
      have := (List.getElem?_eq_some_iff.1 hi).1
      simpa [u8s] using this
    refine ⟨_, rfl, Nat.lt_succ_self _, ?_⟩
    rw [addr_at]
    by_cases e : i = j
    · subst e
      obtain ⟨ad, hA, _, hc⟩ := h.has.at (k := i) (by rw [u8s_len]; exact hil)
      cases hA
      rw [addr_at] at hc
      have hci : i < cs.size := by
        simp only [World.cell?, hb] at hc
        exact (Array.getElem?_eq_some_iff.1 (by simpa using hc)).1
      have hv : v = .int .u8 u := by
        simp [u8s, List.map_set] at hi
        rw [List.getElem?_set] at hi
        simpa [hil] using hi.symm
      rw [hv]
      simp [World.cell?, hb2, hci]
    · obtain ⟨ad, hA, _, hc⟩ := h.has i v (by
        simp [u8s, List.map_set] at hi ⊢
        rw [List.getElem?_set] at hi
        rw [if_neg (fun x => e x.symm)] at hi
        simpa using hi)
      cases hA
      rw [addr_at] at hc
      rw [World.cell?_setCell_other _ _ _ _ (fun x => e (by injection x with _ h2; exact h2.symm))]
      exact hc
  · have := h.soft i (by simpa using hi)
    simpa using this
end Go.Proofs.Ytpopchigboacaaa
