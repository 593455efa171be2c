/- The contracts of the document's own notary: Seal, Copy. -/
import Derived.Test.YtdopgdaobpcbjaaRefNot
import Derived.StillTailTactics
namespace Go.Proofs.Ytdopgdaobpcbjaa
open Go.RowKit Go.Maps

theorem info_int : (Try.prog.info? 3).map (fun i => (i.zero, i.size, i.bytes)) = some (some (.int .i64 0), 1, 8) := by kernel_rfl
theorem info_str : (Try.prog.info? 9).map (fun i => (i.zero, i.size, i.bytes)) = some (some (.string ByteArray.empty), 1, 16) := by kernel_rfl
theorem parties_app (l : List Deed) (d : Deed) : parties (l ++ [d]) = parties l ++ [.int .i64 d.1] := by simp [parties]
theorem texts_app (l : List Deed) (d : Deed) : texts (l ++ [d]) = texts l ++ [.string d.2] := by simp [texts]
theorem most1 {n : Nat} (h : n ≤ 1000000) : n + 1 ≤ maxLen := by unfold maxLen; omega
theorem most2 {n b : Nat} (h : n ≤ 1000000) (hb : b ≤ 100) : (n + 1) * b ≤ 140737488355328 :=
  Nat.le_trans (Nat.mul_le_mul (show n + 1 ≤ 1000001 by omega) hb) (by omega)
set_option maxHeartbeats 1000000 in
theorem rseal_at {R : Nat → Prop} {w : World} {rb : Nat} {l : List Deed} (h : Rf R w rb l) (hlen : l.length ≤ 1000000) {p : Int} {A : Option Addr} {n c B : Nat} {zs : List Int} (hh : Has w B A (u8s zs)) (hn : zs.length = n) (hA : ∀ ad, A = some ad → u8s zs ≠ [] → ¬ R ad.block) :
    Calls Try.prog 37 #[.pointer (some ⟨rb, 0, none⟩), .int .i64 p, .slice A n c] w fun e w' => e = .returned (.int .i64 (sealS l (p, strOfNums zs))) ∧ Rf (fun k => R k ∨ w.heap.size ≤ k) w' rb (sealed l (p, strOfNums zs)) ∧ Turn R w w' := by
  have HC := Lib.hid (rfind_any h hlen hh hn (c := c) (p := p))
  obtain ⟨s, hs⟩ : ∃ s, strOfNums zs = s := ⟨_, rfl⟩
  rw [hs] at HC ⊢
  by_cases hy : (p, s) ∈ l
  · rw [decide_eq_true hy, findS_in hy] at HC
    have HN := Lib.hid h
    have HF := Lib.hid (sealed_in hy)
    have HS := Lib.hid (show (idx l (p, s) : Int) + 1 = sealS l (p, s) from rfl)
    clear h hh hy hs
    go_enter Try.func37, Try.ntmps37
    go_wp2_with fail
    refine HC.out.mono ?_
    rintro e w' ⟨rfl, rfl⟩
    go_wp2_with fail
    go_ret
    rw [HS.out, HF.out]
    exact ⟨rfl, HN.out.mono (fun k _ hk => Or.inl hk), Turn.refl _ _⟩
  · rw [decide_eq_false hy, findS_out hy] at HC
    have HS := Lib.hid (sealS_out hy)
    have HF := Lib.hid (sealed_out hy)
    obtain ⟨v1, v2, hb, ho1, ho2, hz1, hz2⟩ := h.ex
    have hrb := h.zone
    obtain ⟨i0, hi, hx0, hx1, hx2⟩ := info_parts info_int
    obtain ⟨i1, hj, hy0, hy1, hy2⟩ := info_parts info_str
    have HA := Lib.hid hA
    have HZ1 := Lib.hid hz1
    have HZ2 := Lib.hid hz2
    have HH := Lib.hid hh
    have HST := Lib.hid hs
    have hcell0 := hb.cell 0
    simp only [List.getElem?_toArray, List.getElem?_cons_zero] at hcell0
    have HB := Lib.hid hb
    have HO1 := Lib.hid ho1
    have HO2 := Lib.hid ho2
    have HR := Lib.hid hrb
    have hM1 := most1 hlen
    have HM2 := Lib.hid (fun b => most2 (b := b) hlen)
    clear h hy hs hh hA hz1 hz2 hb ho1 ho2 hrb
    go_enter Try.func37, Try.ntmps37
    go_wp2_with fail
    refine HC.out.mono ?_
    rintro e w' ⟨rfl, rfl⟩
    go_wp2_with (at_builtin; refine wpList_app2 rfl (.tmp 22) (.tmp 24) 58 rfl 0 3 i0 (.int .i64 0) 8 Try.underlying58 hi hx0 hx1 hx2 rfl _ _ _ rfl (HO1.out.alloc _) _ (some ⟨w.heap.size, 0, none⟩) 1 1 [.int .i64 p] rfl rfl (Has.fresh w #[.int .i64 p] 3) (fun h => by cases h) (by simp; rfl) hM1 (HM2.out 8 (by omega)) (Nat.zero_le _) ?_)
    intro va w2 hoa hga hla
    obtain ⟨Aa, ca, rfl, _, _⟩ := own_slice hoa
    have ht1 : Turn R w (w.alloc (.cells #[.int .i64 p] 3)) := (Turn.refl R w).alloc _
    have ht2 : Turn R w w2 := ht1.grown hga (fun k hk _ => HZ1.out k hk)
    have hb2 : Blk w2 rb 61 #[v1, v2] := (HB.out.alloc _).grown hga (fun e => own_blk_ne HO1.out HB.out (by decide) e.symm)
    have ho2 : w2.ownsRow 0 9 1 v2 l.length (texts l) := (HO2.out.alloc _).kept hga (own_apart (HO2.out.alloc (.cells #[.int .i64 p] 3)) (HO1.out.alloc _) (by decide))
    have hc2 := hb2.cell 0
    simp only [List.getElem?_toArray, List.getElem?_cons_zero] at hc2
    have hf2 := hb2.frozen 0
    have HLA := Lib.hid hla
    have HHA := Lib.hid (show Has w2 B A (u8s zs) from has_apart HH.out ht2 HA.out)
    have HT2 := Lib.hid ht2
    have HB2 := Lib.hid hb2
    have HO2b := Lib.hid ho2
    have HOA := Lib.hid hoa
    clear hla ht1 ht2 hga ho2 hoa hb2
    go_wp2_with fail
    obtain ⟨w3, hw3⟩ : ∃ w3, w3 = w2.setCell ⟨rb, 0, none⟩ (.slice Aa (l.length + 1) ca) := ⟨_, rfl⟩
    have hb3 : Blk w3 rb 61 #[.slice Aa (l.length + 1) ca, v2] := by rw [hw3]; exact HB2.out.set_ 0 _
    have ho2 : w3.ownsRow 0 9 1 v2 l.length (texts l) := by rw [hw3]; exact own_far HO2b.out (own_blk_ne HO2b.out HB2.out (by decide)) _
    have hoa : w3.ownsRow 0 3 1 (.slice Aa (l.length + 1) ca) (l.length + 1) (parties l ++ [.int .i64 p]) := by rw [hw3]; exact own_far HOA.out (own_blk_ne HOA.out HB2.out (by decide)) _
    have ht3 : Turn R w w3 := by rw [hw3]; exact HT2.out.set_ _ _ HR.out
    have hh3 : Has w3 B A (u8s zs) := by
      have h1 : Turn R w2 (w2.setCell ⟨rb, 0, none⟩ (.slice Aa (l.length + 1) ca)) := (Turn.refl R w2).set_ _ _ HR.out
      rw [hw3]; exact has_apart HHA.out h1 HA.out
    rw [← hw3]
    have hconv := conv_has (w := w3.drew) (c := c) hh3.drew hn
    rw [HST.out] at hconv
    have hc3 := hb3.drew.cell 1
    simp only [List.getElem?_toArray, List.getElem?_cons_zero, List.getElem?_cons_succ] at hc3
    have HB3 := Lib.hid hb3
    have HO2c := Lib.hid ho2
    have HOAc := Lib.hid hoa
    have HT3 := Lib.hid ht3
    have hown3 : (w3.drew.alloc (.cells #[.string s] 9)).ownsRow 0 9 1 v2 l.length (texts l) := HO2c.out.drew.alloc _
    have hnew3 : Has (w3.drew.alloc (.cells #[.string s] 9)) (w3.heap.size + 1) (some ⟨w3.heap.size, 0, none⟩) [.string s] := Has.fresh w3.drew #[.string s] 9
    have hone3 : ∀ u ∈ [Value.string s], u.oneCell' = true := by simp; rfl
    have hblk3 : Blk (w3.drew.alloc (.cells #[.string s] 9)) rb 61 #[.slice Aa (l.length + 1) ca, v2] := HB3.out.drew.alloc _
    have HNE := Lib.hid (own_blk_ne hown3 hblk3 (by decide))
    have hby3 := HM2.out 16 (by omega)
    clear hc2 hf2 HT2 HB2 HO2b HOA HHA hcell0 hb3 ho2 hoa ht3 hh3 hw3
    have hc3b := (HB3.out.alloc (.cells #[.string s] 9)).cell 1
    simp only [List.getElem?_toArray, List.getElem?_cons_zero, List.getElem?_cons_succ] at hc3b
    go_region_law (refine step_app rfl (.tmp 32) (.tmp 35) 59 rfl 0 9 i1 (.string ByteArray.empty) 16 Try.underlying59 hj hy0 hy1 hy2 rfl v2 l.length (texts l) rfl hown3 _ (some ⟨w3.heap.size, 0, none⟩) 1 1 [.string s] rfl rfl hnew3 (fun h => nomatch h) hone3 hM1 hby3 (Nat.zero_le _) ?_; intro vb w5 hob hgb hlb; obtain ⟨Ab, cb, rfl, _, _⟩ := own_slice hob; have hb5 := hblk3.grown hgb (fun e => HNE.out e.symm); have hc5 := hb5.cell 1; have hc50 := hb5.cell 0; have hf5 := hb5.frozen 1; simp only [List.getElem?_toArray, List.getElem?_cons_zero, List.getElem?_cons_succ] at hc5 hc50)
    all_goals
      have hoa5 : w5.ownsRow 0 3 1 (.slice Aa (l.length + 1) ca) (l.length + 1) (parties l ++ [.int .i64 p]) := (HOAc.out.drew.alloc (.cells #[.string s] 9)).kept hgb (own_apart (HOAc.out.drew.alloc (.cells #[.string s] 9)) hown3 (by decide))
      have hoa6 : (w5.setCell ⟨rb, 1, none⟩ (.slice Ab (l.length + 1) cb)).ownsRow 0 3 1 (.slice Aa (l.length + 1) ca) (l.length + 1) (parties l ++ [.int .i64 p]) := own_far hoa5 (own_blk_ne hoa5 hb5 (by decide)) _
      have hob6 : (w5.setCell ⟨rb, 1, none⟩ (.slice Ab (l.length + 1) cb)).ownsRow 0 9 1 (.slice Ab (l.length + 1) cb) (l.length + 1) (texts l ++ [.string s]) := own_far hob (own_blk_ne hob hb5 (by decide)) _
      have ht4 : Turn R w (w3.drew.alloc (.cells #[.string s] 9)) := (HT3.out.drewN 1).alloc _
      have ht5 : Turn R w w5 := ht4.grown hgb (fun k hk _ => HZ2.out k hk)
      have ht6 : Turn R w (w5.setCell ⟨rb, 1, none⟩ (.slice Ab (l.length + 1) cb)) := ht5.set_ _ _ HR.out
      have hsz := HT3.out.size
      have HFin := Lib.hid (show Rf (fun k => R k ∨ w.heap.size ≤ k) (w5.setCell ⟨rb, 1, none⟩ (.slice Ab (l.length + 1) cb)) rb (l ++ [(p, s)]) from
        ⟨Or.inl HR.out, _, _, hb5.set_ 1 _, by rw [parties_app, List.length_append]; exact hoa6, by rw [texts_app, List.length_append]; exact hob6,
          fun g hg => (HLA.out.elim (fun h => Or.inl (HZ1.out g (h ▸ hg))) (fun h => Or.inr (by have := Option.some.inj (h.symm.trans hg); omega))),
          fun g hg => (hlb.elim (fun h => Or.inl (HZ2.out g (h ▸ hg))) (fun h => Or.inr (by
            have := Option.some.inj (h.symm.trans hg)
            have hz : w3.heap.size + 1 = g := by simpa using this
            omega)))⟩)
      have HT6 := Lib.hid ht6
      clear hoa5 hoa6 hob6 ht4 ht5 ht6 hsz hgb hob hlb
      go_wp2_with fail
      go_ret
      rw [HS.out, HF.out]
      exact ⟨rfl, HFin.out, HT6.out⟩

theorem rseal_any {R : Nat → Prop} {w : World} {rb : Nat} {l : List Deed} (h : Rf R w rb l) (hlen : l.length ≤ 1000000) {p : Int} {A : Option Addr} {n c B : Nat} {zs : List Int} (hh : Has w B A (u8s zs)) (hn : zs.length = n) (hA : ∀ k, k < B → ¬ R k) :
    Calls Try.prog 37 #[.pointer (some ⟨rb, 0, none⟩), .int .i64 p, .slice A n c] w fun e w' => e = .returned (.int .i64 (sealS l (p, strOfNums zs))) ∧ Rf (fun k => R k ∨ w.heap.size ≤ k) w' rb (sealed l (p, strOfNums zs)) ∧ Turn R w w' :=
  rseal_at h hlen hh hn (fun ad e hne => by
    cases hz : u8s zs with
    | nil => exact absurd hz hne
    | cons u r =>
      obtain ⟨ad', e', hlt, _⟩ := hh 0 u (by rw [hz]; rfl)
      rw [e] at e'
      cases e'
      exact hA _ hlt)
theorem own_kept0 {w w' : World} {base n s : Nat} {e : TypeId} {v : Value} {xs : List Value} (h : w.ownsRow base e s v n xs) (hg : w.grownBy w' none) : w'.ownsRow base e s v n xs :=
  h.kept hg (by cases hv : v.ownBlock <;> simp)
theorem own_low {w : World} {b b' n s : Nat} {e : TypeId} {v : Value} {xs : List Value} (h : w.ownsRow b e s v n xs) (hb : b' ≤ b) : w.ownsRow b' e s v n xs := by
  refine ⟨h.1, ?_⟩
  rcases h.2 with h2 | ⟨g, cap, cur, hv, hg, r⟩
  · exact Or.inl h2
  · exact Or.inr ⟨g, cap, cur, hv, Nat.le_trans hb hg, r⟩
theorem most0 {n : Nat} (h : n ≤ 1000000) : 0 + n ≤ maxLen := by unfold maxLen; omega
theorem most3 {n b : Nat} (h : n ≤ 1000000) (hb : b ≤ 100) : (0 + n) * b ≤ 140737488355328 :=
  Nat.le_trans (Nat.mul_le_mul (show 0 + n ≤ 1000000 by omega) hb) (by omega)
theorem below_grown0 {w w' : World} (hg : w.grownBy w' none) : Below w.heap.size w w' := (Below.refl _ w).grown hg (Nat.le_refl _) (fun k hk => by cases hk)
end Go.Proofs.Ytdopgdaobpcbjaa
