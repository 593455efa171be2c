/- The contracts of package link, second part: Peek, Push, Dup. -/
import Derived.Test.YtpopchigboacaaaQueue
namespace Go.Proofs.Ytpopchigboacaaa
open Go.RowKit Go.Sort

theorem hasB_in {L : List (List Int)} {k : Nat} (h : k < L.length) : hasB L (k : Int) = true := by simp [hasB]; omega
/-- An element of the queue's row. -/
theorem own_str {w : World} {v : Value} {L : List (List Int)} (ho : w.ownsRow 0 9 1 v L.length (L.map strV)) {k : Nat} (hk : k < L.length) :
    ∃ g c, v = .slice (some ⟨g, 0, none⟩) L.length c ∧ L.length ≤ c ∧ c ≤ maxLen ∧ g < w.heap.size ∧ w.cell? ⟨g, k, none⟩ = some (.string (strOfNums L[k])) := by
  obtain ⟨g, c, hv, h1, h2⟩ := ho.form (by omega)
  obtain ⟨A, c', hv', h3, h4⟩ := own_slice ho
  rw [hv] at hv'
  injection hv' with e1 e2 e3
  subst e3
  refine ⟨g, c, hv, h3, h4, h2, ?_⟩
  have := ho.cells (g := g) (by rw [hv]; rfl) k (.string (strOfNums L[k])) (by simp [strV, hk])
  rwa [addr_at] at this
set_option maxHeartbeats 400000 in
theorem qpeek_in {R : Nat → Prop} {w : World} {qb : Nat} {room lost : Int} {L : List (List Int)} (h : Qu R w qb room lost L) {k : Nat} (hk : k < L.length) :
    Calls Try.prog 11 #[.pointer (some ⟨qb, 0, none⟩), .int .i64 k] w fun e w' => ∃ c, e = .returned (.tuple #[.slice (some ⟨w.heap.size, 0, none⟩) L[k].length c, .bool true]) ∧ Bytes w' w.heap.size L[k] ∧ Below w.heap.size w w' ∧ w.heap.size < w'.heap.size := by
  have HC := Lib.hid (qhas_any h k)
  rw [hasB_in hk] at HC
  obtain ⟨v, h1, h2, h3⟩ := h.ex
  obtain ⟨g, c, rfl, hlc, _, _, hcell⟩ := own_str h2 hk
  obtain ⟨cb, hconv, hby, hbel⟩ := conv_back (h.good _ (List.getElem_mem hk)) w
  have hc := h1.cell 1
  simp only [List.getElem?_toArray, List.getElem?_cons_zero, List.getElem?_cons_succ] at hc
  have HB := Lib.hid hby
  have HL := Lib.hid hbel
  have HS := Lib.hid (show w.heap.size < (Lib.bytesWorld w 5 (strOfNums L[k])).heap.size by rw [Lib.bytesWorld_size]; omega)
  unfold strV at hconv
  obtain ⟨s, hs⟩ : ∃ s, strOfNums L[k] = s := ⟨_, rfl⟩
  obtain ⟨w2, hw2⟩ : ∃ w2, Lib.bytesWorld w 5 (strOfNums L[k]) = w2 := ⟨_, rfl⟩
  obtain ⟨m, hm⟩ : ∃ m, L[k].length = m := ⟨_, rfl⟩
  obtain ⟨n, hn⟩ : ∃ n, L.length = n := ⟨_, rfl⟩
  rw [hw2] at HB HL HS hconv
  rw [hs] at hconv hcell
  rw [hm] at hconv ⊢
  rw [hn] at hk hlc hc
  clear h h1 h2 h3 hby hbel hs hw2 hm hn
  go_enter Try.func11, Try.ntmps11
  go_wp2_with fail
  refine HC.out.mono ?_
  rintro e w' ⟨rfl, rfl⟩
  go_wp2_with fail
  go_ret2
  exact ⟨_, rfl, HB.out, HL.out, HS.out⟩
set_option maxHeartbeats 400000 in
theorem qpeek_out {R : Nat → Prop} {w : World} {qb : Nat} {room lost : Int} {L : List (List Int)} (h : Qu R w qb room lost L) {k : Int} (hk : hasB L k = false) :
    Calls Try.prog 11 #[.pointer (some ⟨qb, 0, none⟩), .int .i64 k] w fun e w' => e = .returned (.tuple #[.slice none 0 0, .bool false]) ∧ w = w' := by
  have HC := Lib.hid (qhas_any h k)
  rw [hk] at HC
  clear h hk
  go_enter Try.func11, Try.ntmps11
  go_wp2_with fail
  refine HC.out.mono ?_
  rintro e w' ⟨rfl, rfl⟩
  go_wp2_with fail
  go_ret2
  exact ⟨rfl, rfl⟩
theorem most_room {n : Nat} {room : Int} (h : (n : Int) < room) (hr : room ≤ 256) : n + 1 ≤ maxLen ∧ (n + 1) * 16 ≤ 140737488355328 := by unfold maxLen; omega
set_option maxHeartbeats 1000000 in
theorem qpush_in {R : Nat → Prop} {w : World} {qb : Nat} {room lost : Int} {L : List (List Int)} (h : Qu R w qb room lost L) (hroom : (L.length : Int) < room) {A : Option Addr} {n c B : Nat} {z : List Int} (hh : Has w B A (u8s z)) (hn : z.length = n) (hz : By z) :
    Calls Try.prog 23 #[.pointer (some ⟨qb, 0, none⟩), .slice A n c] w fun e w' => e = .returned (.bool true) ∧ Qu (fun k => R k ∨ w.heap.size ≤ k) w' qb room lost (L ++ [z]) ∧ Turn (QZ R w) w w' := by
  have HC := Lib.hid (qfull_any h)
  rw [decide_eq_false (show ¬ (L.length : Int) = room by omega)] at HC
  have HQ := Lib.hid h
  obtain ⟨v, hb, ho, hzn⟩ := h.ex
  obtain ⟨i1, hj, hy0, hy1, hy2⟩ := info_parts info_str
  have hn1 : decide (65536 < (n : Int)) = false := decide_eq_false (by have := hz.len; omega)
  obtain ⟨hM1, hM2⟩ := most_room hroom h.r2
  have HR := Lib.hid (show ((L ++ [z]).length : Int) ≤ room by simp; omega)
  have HG := Lib.hid (show ∀ y ∈ L ++ [z], By y from fun y hy => by
    rcases List.mem_append.1 hy with hy | hy
    · exact h.good y hy
    · rw [List.mem_singleton.1 hy]; exact hz)
  have HZ := Lib.hid hzn
  have HQZ := Lib.hid (fun k hk => qz_in (k := k) h.zone hb ho hzn hk)
  have HM2 := Lib.hid hM2
  obtain ⟨s, hs⟩ : ∃ s, strOfNums z = s := ⟨_, rfl⟩
  have HS := Lib.hid (show strV z = .string s by rw [← hs]; rfl)
  have HST := Lib.hid hs
  have HH := Lib.hid hh
  have HB := Lib.hid hb
  have HO := Lib.hid ho
  have HN := Lib.hid hn
  clear h hh hb ho hzn hz hs hn hroom hM2
  go_enter Try.func23, Try.ntmps23
  go_wp2_with fail
  refine HC.out.mono ?_
  rintro e w' ⟨rfl, m, rfl⟩
  go_wp2_with fail
  obtain ⟨w3, hw3⟩ : ∃ w3, w3 = w.drewN m := ⟨_, rfl⟩
  have hb3 : Blk w3 qb 54 #[.int .i64 room, v, .int .i64 lost] := by rw [hw3]; exact HB.out.drewN m
  have ho3 : w3.ownsRow 0 9 1 v L.length (L.map strV) := by rw [hw3]; exact (Turn.own ((Turn.refl (fun _ => False) w).drewN m) HO.out (fun _ _ => id))
  have hh3 : Has w3 B A (u8s z) := by rw [hw3]; exact HH.out.drewN m
  have ht3 : Turn (QZ R w) w w3 := by rw [hw3]; exact (Turn.refl _ w).drewN m
  have hsz3 : w3.heap.size = w.heap.size := by rw [hw3]; rfl
  rw [← hw3]
  have hconv := conv_has (w := w3.drew) (c := c) hh3.drew HN.out
  rw [HST.out] at hconv
  have hc3 := hb3.drew.cell 1
  have hc3b := (hb3.alloc (.cells #[.string s] 9)).cell 1
  simp only [List.getElem?_toArray, List.getElem?_cons_zero, List.getElem?_cons_succ] at hc3 hc3b
  have hown3 : (w3.drew.alloc (.cells #[.string s] 9)).ownsRow 0 9 1 v L.length (L.map strV) := ho3.drew.alloc _
  have hnew3 : Has (w3.drew.alloc (.cells #[.string s] 9)) (w3.heap.size + 1) (some ⟨w3.heap.size, 0, none⟩) [.string s] := Has.fresh w3.drew #[.string s] 9
  have hone3 : ∀ u ∈ [Value.string s], u.oneCell' = true := by simp; rfl
  have hblk3 : Blk (w3.drew.alloc (.cells #[.string s] 9)) qb 54 #[.int .i64 room, v, .int .i64 lost] := hb3.drew.alloc _
  have HNE := Lib.hid (own_blk_ne hown3 hblk3 (by decide))
  have HT3 := Lib.hid (show Turn (QZ R w) w (w3.drew.alloc (.cells #[.string s] 9)) from (ht3.drewN 1).alloc _)
  have HSZ := Lib.hid hsz3
  have hby3 := HM2.out
  clear hb3 ho3 hh3 ht3 hw3 hsz3
  go_region_law (refine step_app rfl (.tmp 23) (.tmp 26) 52 rfl 0 9 i1 (.string ByteArray.empty) 16 Try.underlying52 hj hy0 hy1 hy2 rfl v L.length (L.map strV) rfl hown3 _ (some ⟨w3.heap.size, 0, none⟩) 1 1 [.string s] rfl rfl hnew3 (fun h => nomatch h) hone3 hM1 hby3 (Nat.zero_le _) ?_; intro vb w5 hob hgb hlb; obtain ⟨Ab, cb, rfl, _, _⟩ := own_slice hob; have hb5 := hblk3.grown hgb (fun e => HNE.out e.symm); have hc5 := hb5.cell 1; have hf5 := hb5.frozen 1; simp only [List.getElem?_toArray, List.getElem?_cons_zero, List.getElem?_cons_succ] at hc5)
  all_goals
    have hob6 : (w5.setCell ⟨qb, 1, none⟩ (.slice Ab (L.length + 1) cb)).ownsRow 0 9 1 (.slice Ab (L.length + 1) cb) (L.length + 1) (L.map strV ++ [.string s]) := own_far hob (own_blk_ne hob hb5 (by decide)) _
    have ht5 : Turn (QZ R w) w w5 := HT3.out.grown hgb (fun k hk _ => HQZ.out k (Or.inr hk))
    have ht6 : Turn (QZ R w) w (w5.setCell ⟨qb, 1, none⟩ (.slice Ab (L.length + 1) cb)) := ht5.set_ _ _ (HQZ.out _ (Or.inl rfl))
    have HFin := Lib.hid (show Qu (fun k => R k ∨ w.heap.size ≤ k) (w5.setCell ⟨qb, 1, none⟩ (.slice Ab (L.length + 1) cb)) qb room lost (L ++ [z]) from
      ⟨Or.inl HQ.out.zone, HQ.out.r1, HQ.out.r2, HR.out, HG.out, _, hb5.set_ 1 _, by rw [strs_app, List.length_append, HS.out]; exact hob6,
        fun g hg => (hlb.elim (fun h => Or.inl (HZ.out g (h ▸ hg))) (fun h => Or.inr (by
          have := Option.some.inj (h.symm.trans hg)
          have hz : w3.heap.size + 1 = g := by simpa using this
          have := HSZ.out
          omega)))⟩)
    have HT6 := Lib.hid ht6
    clear hob6 ht5 ht6 hgb hob hlb
    go_wp2_with fail
    go_ret
    exact ⟨rfl, HFin.out, HT6.out⟩
set_option maxHeartbeats 1000000 in
theorem qpush_out {R : Nat → Prop} {w : World} {qb : Nat} {room lost : Int} {L : List (List Int)} (h : Qu R w qb room lost L) (h0 : 0 ≤ lost) (hl : lost ≤ 1000000) {A : Option Addr} {n c : Nat} (hroom : (L.length : Int) = room ∨ 65536 < (n : Int)) :
    Calls Try.prog 23 #[.pointer (some ⟨qb, 0, none⟩), .slice A n c] w fun e w' => e = .returned (.bool false) ∧ Qu (fun k => R k ∨ w.heap.size ≤ k) w' qb room (lost + 1) L ∧ Turn (QZ R w) w w' := by
  have HC := Lib.hid (qfull_any h)
  have HQ := Lib.hid h
  obtain ⟨v, hb, ho, hzn⟩ := h.ex
  have HZ := Lib.hid hzn
  have HQZ := Lib.hid (fun k hk => qz_in (k := k) h.zone hb ho hzn hk)
  have hc := fun m => (hb.drewN m).cell 2
  simp only [List.getElem?_toArray, List.getElem?_cons_zero, List.getElem?_cons_succ] at hc
  have hf := fun m => (hb.drewN m).frozen 2
  have HFin := Lib.hid (fun m => (show Qu (fun k => R k ∨ w.heap.size ≤ k) ((w.drewN m).setCell ⟨qb, 2, none⟩ (.int .i64 (lost + 1))) qb room (lost + 1) L from
    ⟨Or.inl h.zone, h.r1, h.r2, h.len, h.good, v, (hb.drewN m).set_ 2 _, own_far (Turn.own ((Turn.refl (fun _ => False) w).drewN m) ho (fun _ _ => id)) (own_blk_ne ho hb (by decide)) _, fun g hg => Or.inl (hzn g hg)⟩))
  have HT := Lib.hid (fun m => (show Turn (QZ R w) w ((w.drewN m).setCell ⟨qb, 2, none⟩ (.int .i64 (lost + 1))) from ((Turn.refl _ w).drewN m).set_ _ _ (HQZ.out _ (Or.inl rfl))))
  by_cases hd : (L.length : Int) = room
  · rw [decide_eq_true hd] at HC
    clear h hb ho hzn hd hroom
    go_enter Try.func23, Try.ntmps23
    go_wp2_with fail
    refine HC.out.mono ?_
    rintro e w' ⟨rfl, m, rfl⟩
    go_wp2_with fail
    go_ret
    exact ⟨rfl, HFin.out m, HT.out m⟩
  · rw [decide_eq_false hd] at HC
    have hn1 : decide (65536 < (n : Int)) = true := decide_eq_true (by omega)
    clear h hb ho hzn hd hroom
    go_enter Try.func23, Try.ntmps23
    go_wp2_with fail
    refine HC.out.mono ?_
    rintro e w' ⟨rfl, m, rfl⟩
    go_wp2_with fail
    go_ret
    exact ⟨rfl, HFin.out m, HT.out m⟩
end Go.Proofs.Ytpopchigboacaaa
