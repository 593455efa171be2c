/- The contracts of package link, third part: Dup, Take. -/
import Derived.Test.YtpopchigboacaaaQueue2
import Derived.Sort.OwnSorted
namespace Go.Proofs.Ytpopchigboacaaa
open Go.RowKit Go.Sort

set_option maxHeartbeats 1000000 in
theorem qdup_in {R : Nat → Prop} {w : World} {qb : Nat} {room lost : Int} {L : List (List Int)} (h : Qu R w qb room lost L) {k : Nat} (hk : k < L.length) (hroom : (L.length : Int) < room) :
    Calls Try.prog 16 #[.pointer (some ⟨qb, 0, none⟩), .int .i64 k] w fun e w' => e = .returned (.bool true) ∧ Qu (fun k => R k ∨ w.heap.size ≤ k) w' qb room lost (L ++ [L[k]]) ∧ Turn (QZ R w) w w' := by
  have HK := Lib.hid (qhas_any h k)
  rw [hasB_in hk] at HK
  have HC := Lib.hid (qfull_any h)
  rw [decide_eq_false (show ¬ (L.length : Int) = room by omega)] at HC
  have HQ := Lib.hid h
  obtain ⟨v, hb, ho, hzn⟩ := h.ex
  obtain ⟨g, c, rfl, hlc, _, hgl, hcell⟩ := own_str ho hk
  obtain ⟨i1, hj, hy0, hy1, hy2⟩ := info_parts info_str
  obtain ⟨hM1, hM2⟩ := most_room hroom h.r2
  have HR := Lib.hid (show ((L ++ [L[k]]).length : Int) ≤ room by simp; omega)
  have HG := Lib.hid (show ∀ y ∈ L ++ [L[k]], By y from fun y hy => by
    rcases List.mem_append.1 hy with hy | hy
    · exact h.good y hy
    · rw [List.mem_singleton.1 hy]; exact h.good _ (List.getElem_mem hk))
  have HZ := Lib.hid hzn
  have HQZ := Lib.hid (fun k hk => qz_in (k := k) h.zone hb ho hzn hk)
  have HM2 := Lib.hid hM2
  have HGL := Lib.hid hgl
  obtain ⟨s, hs⟩ : ∃ s, strOfNums L[k] = s := ⟨_, rfl⟩
  rw [hs] at hcell
  have HS := Lib.hid (show (L ++ [L[k]]).map strV = L.map strV ++ [.string s] by rw [strs_app, ← hs]; rfl)
  obtain ⟨L', hL'⟩ : ∃ L', L ++ [L[k]] = L' := ⟨_, rfl⟩
  have HLL := Lib.hid (show L'.length = L.length + 1 by rw [← hL']; simp)
  rw [hL'] at HS HR HG ⊢
  have HB := Lib.hid hb
  have HO := Lib.hid ho
  have HCE := Lib.hid hcell
  obtain ⟨n, hn⟩ : ∃ n, L.length = n := ⟨_, rfl⟩
  rw [hn] at hk hlc hM1 HM2 HLL HB HO hroom HQZ
  clear h hb ho hzn hs hL' hgl hcell hM2 hroom hn
  go_enter Try.func16, Try.ntmps16
  go_wp2_with fail
  refine HK.out.mono ?_
  rintro e w' ⟨rfl, rfl⟩
  go_wp2_with fail
  refine HC.out.mono ?_
  rintro e w' ⟨rfl, m, rfl⟩
  go_wp2_with fail
  obtain ⟨w3, hw3⟩ : ∃ w3, w3 = w.drewN m := ⟨_, rfl⟩
  have hb3 : Blk w3 qb 54 #[.int .i64 room, .slice (some ⟨g, 0, none⟩) n c, .int .i64 lost] := by rw [hw3]; exact HB.out.drewN m
  have ho3 : w3.ownsRow 0 9 1 (.slice (some ⟨g, 0, none⟩) n c) n (L.map strV) := by rw [hw3]; exact (Turn.own ((Turn.refl (fun _ => False) w).drewN m) HO.out (fun _ _ => id))
  have hcell3 : w3.cell? ⟨g, k, none⟩ = some (.string s) := by rw [hw3]; exact HCE.out
  have ht3 : Turn (QZ R w) w w3 := by rw [hw3]; exact (Turn.refl _ w).drewN m
  have hsz3 : w3.heap.size = w.heap.size := by rw [hw3]; rfl
  rw [← hw3]
  have hc3 := hb3.drew.cell 1
  have hc3b := (hb3.alloc (.cells #[.string s] 9)).cell 1
  simp only [List.getElem?_toArray, List.getElem?_cons_zero, List.getElem?_cons_succ] at hc3 hc3b
  have hown3 : (w3.drew.alloc (.cells #[.string s] 9)).ownsRow 0 9 1 (.slice (some ⟨g, 0, none⟩) n c) n (L.map strV) := ho3.drew.alloc _
  have hnew3 : Has (w3.drew.alloc (.cells #[.string s] 9)) (w3.heap.size + 1) (some ⟨w3.heap.size, 0, none⟩) [.string s] := Has.fresh w3.drew #[.string s] 9
  have hone3 : ∀ u ∈ [Value.string s], u.oneCell' = true := by simp; rfl
  have hblk3 : Blk (w3.drew.alloc (.cells #[.string s] 9)) qb 54 #[.int .i64 room, .slice (some ⟨g, 0, none⟩) n c, .int .i64 lost] := hb3.drew.alloc _
  have HNE := Lib.hid (own_blk_ne hown3 hblk3 (by decide))
  have HT3 := Lib.hid (show Turn (QZ R w) w (w3.drew.alloc (.cells #[.string s] 9)) from (ht3.drewN 1).alloc _)
  have HSZ := Lib.hid hsz3
  have hby3 := HM2.out
  clear hb3 ho3 ht3 hw3 hsz3
  go_region_law (refine step_app rfl (.tmp 17) (.tmp 25) 52 rfl 0 9 i1 (.string ByteArray.empty) 16 Try.underlying52 hj hy0 hy1 hy2 rfl (.slice (some ⟨g, 0, none⟩) n c) n (L.map strV) rfl hown3 _ (some ⟨w3.heap.size, 0, none⟩) 1 1 [.string s] rfl rfl hnew3 (fun h => nomatch h) hone3 hM1 hby3 (Nat.zero_le _) ?_; intro vb w5 hob hgb hlb; obtain ⟨Ab, cb, rfl, _, _⟩ := own_slice hob; have hb5 := hblk3.grown hgb (fun e => HNE.out e.symm); have hc5 := hb5.cell 1; have hf5 := hb5.frozen 1; simp only [List.getElem?_toArray, List.getElem?_cons_zero, List.getElem?_cons_succ] at hc5)
  all_goals
    have hob6 : (w5.setCell ⟨qb, 1, none⟩ (.slice Ab (n + 1) cb)).ownsRow 0 9 1 (.slice Ab (n + 1) cb) (n + 1) (L.map strV ++ [.string s]) := own_far hob (own_blk_ne hob hb5 (by decide)) _
    have ht5 : Turn (QZ R w) w w5 := HT3.out.grown hgb (fun k hk _ => HQZ.out k (Or.inr hk))
    have ht6 : Turn (QZ R w) w (w5.setCell ⟨qb, 1, none⟩ (.slice Ab (n + 1) cb)) := ht5.set_ _ _ (HQZ.out _ (Or.inl rfl))
    have HFin := Lib.hid (show Qu (fun k => R k ∨ w.heap.size ≤ k) (w5.setCell ⟨qb, 1, none⟩ (.slice Ab (n + 1) cb)) qb room lost L' from
      ⟨Or.inl HQ.out.zone, HQ.out.r1, HQ.out.r2, HR.out, HG.out, _, hb5.set_ 1 _, by rw [HLL.out, HS.out]; exact hob6,
        fun g hg => (hlb.elim (fun h => Or.inl (HZ.out g (h ▸ hg))) (fun h => Or.inr (by
          have := Option.some.inj (h.symm.trans hg)
          have hz : w3.heap.size + 1 = g := by simpa using this
          have := HSZ.out
          omega)))⟩)
    have HT6 := Lib.hid ht6
    clear hob6 ht5 ht6 hgb hob hlb
    go_wp2_with fail
    go_ret
    exact ⟨rfl, HFin.out, HT6.out⟩
set_option maxHeartbeats 400000 in
theorem qdup_out {R : Nat → Prop} {w : World} {qb : Nat} {room lost : Int} {L : List (List Int)} (h : Qu R w qb room lost L) {k : Int} (hk : hasB L k = false ∨ (L.length : Int) = room) :
    Calls Try.prog 16 #[.pointer (some ⟨qb, 0, none⟩), .int .i64 k] w fun e w' => e = .returned (.bool false) ∧ ∃ m, w' = w.drewN m := by
  have HK := Lib.hid (qhas_any h k)
  have HC := Lib.hid (qfull_any h)
  by_cases hd : hasB L k = true
  · rw [hd] at HK
    rw [decide_eq_true (hk.resolve_left (by rw [hd]; simp))] at HC
    clear h hk hd
    go_enter Try.func16, Try.ntmps16
    go_wp2_with fail
    refine HK.out.mono ?_
    rintro e w' ⟨rfl, rfl⟩
    go_wp2_with fail
    refine HC.out.mono ?_
    rintro e w' ⟨rfl, m, rfl⟩
    go_wp2_with fail
    go_ret
    exact ⟨rfl, _, rfl⟩
  · rw [Bool.not_eq_true] at hd
    rw [hd] at HK
    clear h hk hd HC
    go_enter Try.func16, Try.ntmps16
    go_wp2_with fail
    refine HK.out.mono ?_
    rintro e w' ⟨rfl, rfl⟩
    go_wp2_with fail
    go_ret
    exact ⟨rfl, 0, rfl⟩

/-! ### Delete -/
def cutL {α : Type} (L : List α) (k : Nat) : List α := L.take k ++ L.drop (k + 1)
theorem cutL_len {α : Type} {L : List α} {k : Nat} (h : k < L.length) : (cutL L k).length = L.length - 1 := by simp [cutL]; omega
theorem cutL_map {α β : Type} (f : α → β) (L : List α) (k : Nat) : (cutL L k).map f = cutL (L.map f) k := by simp [cutL, List.map_take, List.map_drop]
theorem cutL_mem {α : Type} {L : List α} {k : Nat} {x : α} (h : x ∈ cutL L k) : x ∈ L := by
  rcases List.mem_append.1 h with h | h
  · exact List.mem_of_mem_take h
  · exact List.mem_of_mem_drop h
def u8l (z : List Int) : List UInt8 := z.map fun n => UInt8.ofNat n.toNat
theorem encStr_u8l (z : List Int) : encStr (u8l z) = strV z := rfl
theorem enc_map (L : List (List Int)) : (L.map u8l).map encStr = L.map strV := by rw [List.map_map]; rfl
/-- A row of the call's own, cut short. -/
theorem own_less {w : World} {b g n c m : Nat} {e : TypeId} {xs : List Value} (h : w.ownsRow b e 1 (.slice (some ⟨g, 0, none⟩) n c) n xs) (hm : m ≤ n) : w.ownsRow b e 1 (.slice (some ⟨g, 0, none⟩) m c) m (xs.take m) := by
  obtain ⟨h1, h2⟩ := h
  rcases h2 with ⟨h2, _⟩ | ⟨g', cap, cur, hv, hg, hb, hc, hmx, hz, ht⟩
  · injection h2 with a; cases a
  · injection hv with a1 a2 a3
    injection a1 with a1
    injection a1 with a1
    subst a1 a3
    refine ⟨by simp [h1]; omega, Or.inr ⟨g, c, cur, rfl, hg, hb, by omega, hmx, hz, ?_⟩⟩
    rw [← ht, List.take_take, Nat.mul_one, Nat.mul_one, Nat.min_eq_left hm]
/-- .. and one cell longer. -/
theorem own_more {w : World} {b g n c : Nat} {e : TypeId} {xs : List Value} (h : w.ownsRow b e 1 (.slice (some ⟨g, 0, none⟩) n c) n xs) (hm : n < c) : ∃ u, w.ownsRow b e 1 (.slice (some ⟨g, 0, none⟩) (n + 1) c) (n + 1) (xs ++ [u]) := by
  obtain ⟨h1, h2⟩ := h
  rcases h2 with ⟨h2, _⟩ | ⟨g', cap, cur, hv, hg, hb, hc, hmx, hz, ht⟩
  · injection h2 with a; cases a
  · injection hv with a1 a2 a3
    injection a1 with a1
    injection a1 with a1
    subst a1 a3
    have hn : n < cur.toList.length := by simp [hz]; omega
    refine ⟨cur.toList[n], by simp [h1], Or.inr ⟨g, c, cur, rfl, hg, hb, by omega, hmx, hz, ?_⟩⟩
    rw [← ht, Nat.mul_one, Nat.mul_one, List.take_succ_eq_append_getElem hn]
theorem qdel_any {w : World} {g c : Nat} {L : List (List Int)} (h : w.ownsRow 0 9 1 (.slice (some ⟨g, 0, none⟩) L.length c) L.length (L.map strV)) {k : Nat} (hk : k < L.length) :
    Calls Try.prog 25 #[.slice (some ⟨g, 0, none⟩) L.length c, .int .i64 k, .int .i64 ((k : Int) + 1)] w fun e w' => e = .returned (.slice (some ⟨g, 0, none⟩) (L.length - 1) c) ∧ w'.ownsRow 0 9 1 (.slice (some ⟨g, 0, none⟩) (L.length - 1) c) (L.length - 1) ((cutL L k).map strV) ∧ Turn (fun k => k = g) w w' ∧ w'.heap.size = w.heap.size := by
  have h' := h
  obtain ⟨_, h2⟩ := h'
  rcases h2 with ⟨h2, _⟩ | ⟨g', cap, cur, hv, hg, hb, hc, hmx, hz, ht⟩
  · injection h2 with a; cases a
  · injection hv with a1 a2 a3
    injection a1 with a1
    injection a1 with a1
    subst a1 a3
    have hlen : (L.map u8l).length = L.length := by simp
    have hH : Holds encStr w g 0 (L.map u8l).toArray := holds_of_block hb (by rw [enc_map, hlen]; simpa using ht)
    have HC := Any.slices_Delete_string delStr g 0 c k (k + 1) (L.map u8l) w hH (by rw [hlen]; exact hc) (by unfold maxLen at hmx; omega) (by omega) (by rw [hlen]; omega)
    have HC : Calls Try.prog 25 #[.slice (some ⟨g, 0, none⟩) (L.map u8l).length c, .int .i64 k, .int .i64 ((k : Int) + 1)] w fun e w' => e = .returned (.slice (some ⟨g, 0, none⟩) ((L.map u8l).length - (k + 1 - k)) c) ∧ ∃ q, w' = putRow encStr (Sort.ahead w q) g 0 ((L.map u8l).take k ++ (L.map u8l).drop (k + 1) ++ List.replicate (k + 1 - k) []).toArray := HC
    rw [hlen] at HC
    refine HC.mono ?_
    rintro e w' ⟨he, q, rfl⟩
    have h1 : k + 1 - k = 1 := by omega
    rw [h1] at he ⊢
    have hts : ((L.map u8l).take k ++ (L.map u8l).drop (k + 1) ++ List.replicate 1 []).length = (L.map u8l).length := by simp; omega
    have hgr : ∀ W : World, grow W #[] = W := fun W => by simp [grow]
    have ho := ownsRow_sorted (n := q) (os := #[]) (base := 0) hts hg hb (by rw [hlen]; exact hc) hmx hz
    have hgb := grownBy_sorted (w := w) (g := g) (n := q) (os := #[]) ((L.map u8l).take k ++ (L.map u8l).drop (k + 1) ++ List.replicate 1 []).toArray
    rw [hgr] at ho hgb
    rw [hlen] at ho
    have hl := own_less ho (show L.length - 1 ≤ L.length by omega)
    refine ⟨he, ?_, (Turn.refl _ w).grown hgb (fun k hk _ => (Option.some.inj hk).symm), by simp⟩
    have hx : ((((L.map u8l).take k ++ (L.map u8l).drop (k + 1) ++ List.replicate 1 []).map encStr).take (L.length - 1)) = (cutL L k).map strV := by
      rw [List.map_append, List.take_append_of_le_length (by simp; omega), List.take_of_length_le (by simp; omega), cutL_map]
      unfold cutL
      rw [← enc_map, List.map_append, List.map_take, List.map_drop]
    rw [hx] at hl
    exact hl
end Go.Proofs.Ytpopchigboacaaa
