/- Package change: Put, New, Clone. -/
import Derived.Test.YtfbipebijelfjaaChg1
import Derived.Test.YtfbipebijelfjaaApps
import Derived.Lib.SliceRun
namespace Go.Proofs.Ytfbipebijelfjaa
open Go.RowKit
set_option linter.unusedSimpArgs false

section
variable {w w' : World} {vb g c : Nat} {f : Int} {L : List Cw}
theorem ptC_bad {L : List Cw} {k vw sg : Int} (h : ¬ takesC L k vw) : ptC L k vw sg = (false, L) := if_neg h
theorem ptC_good {L : List Cw} {k : Nat} {vw sg : Int} (h : takesC L k vw) : ptC L k vw sg = (true, L.set k (some (vw, sg))) := by
  unfold ptC
  rw [if_pos h, Int.toNat_natCast]
/-- What Put leaves. -/
def PutPost (w : World) (vb g c : Nat) (f : Int) (r : Bool × List Cw) (e : Ending) (w' : World) : Prop := e = .returned (.bool r.1) ∧ Vq w' vb g c f r.2 ∧ Turn (fun j => j = g) w w'
set_option maxHeartbeats 1000000 in
theorem cput_any (h : Vq w vb g c f L) (k vw sg : Int) : Calls Try.prog 10 #[.pointer (some ⟨vb, 0, none⟩), .int .i64 k, .int .i64 vw, .int .i64 sg] w (PutPost w vb g c f (ptC L k vw sg)) := by
  have HH := Lib.hid (chas_any h k)
  have HV := Lib.hid h
  by_cases hk : inC L k
  · rw [decide_eq_true hk] at HH
    by_cases v0 : 0 ≤ vw
    · by_cases v1 : vw < 12
      · obtain ⟨m, rfl⟩ := Int.eq_ofNat_of_zero_le hk.1
        have hm : m < L.length := by have := hk.2; omega
        obtain ⟨x, hx⟩ : ∃ x, L[m] = x := ⟨_, rfl⟩
        have hat : atC L (m : Int) = x := by rw [atC_in (List.getElem?_eq_getElem hm), hx]
        have HB := Lib.hid h.blk
        have g0 : decide (vw < 0) = false := decide_eq_false (by omega)
        have g1 : decide (12 ≤ vw) = false := decide_eq_false (by omega)
        have HOk := Lib.hid (show OkC (L.set m (some (vw, sg))) from fun p hp => by
          rcases List.mem_or_eq_of_mem_set hp with hp | hp
          · exact h.ok p hp
          · injection hp with hp
            subst hp
            exact ⟨v0, v1⟩)
        have HPut := Lib.hid (fun (wz : World) (hz : Vq wz vb g c f L) => hz.put hm (x := some (vw, sg)) rfl HOk.out)
        have HNe := Lib.hid h.ne
        have HAl := Lib.hid (fun (a b d : Value) => show Vq (w.alloc (.cells #[a, b, d] 60)) vb g c f L from h.below ((Below.refl _ _).alloc (Nat.le_refl _) _))
        have HTa := Lib.hid (fun (a b d : Value) => show Turn (fun j => j = g) w (w.alloc (.cells #[a, b, d] 60)) from (Turn.refl (fun j => j = g) w).alloc _)
        have HGl := Lib.hid h.lt
        cases x with
        | none =>
          have hcs := h.at hm (a := .bool false) (b := .int .i64 0) (d := .int .i64 0) (by rw [hx]; rfl)
          have ht : takesC L (m : Int) vw := ⟨hk, v0, v1, fun y hy => by rw [hat] at hy; cases hy⟩
          rw [ptC_good ht]
          obtain ⟨c0, c1, c2⟩ := hcs
          have HV2 := Lib.hid (HAl.out (.bool false) (.int .i64 0) (.int .i64 0))
          have hb2 := HV2.out.blk.cell 1
          simp only [List.getElem?_toArray, List.getElem?_cons_zero, List.getElem?_cons_succ] at hb2
          have hb1 := HB.out.cell 1
          simp only [List.getElem?_toArray, List.getElem?_cons_zero, List.getElem?_cons_succ] at hb1
          obtain ⟨d0, d1, d2⟩ := HV2.out.at hm (a := .bool false) (b := .int .i64 0) (d := .int .i64 0) (by rw [hx]; rfl)
          have e0 := HV2.out.frozen (m * 3)
          have e1 := HV2.out.frozen (m * 3 + 1)
          have e2 := HV2.out.frozen (m * 3 + 2)
          have HF := Lib.hid (HPut.out _ HV2.out)
          have HT := Lib.hid (((HTa.out (.bool false) (.int .i64 0) (.int .i64 0)).set_ ⟨g, m * 3, none⟩ (.bool true) rfl).set_ ⟨g, m * 3 + 1, none⟩ (.int .i64 vw) rfl |>.set_ ⟨g, m * 3 + 2, none⟩ (.int .i64 sg) rfl)
          obtain ⟨n, hn⟩ : ∃ n, L.length = n := ⟨_, rfl⟩
          rw [hn] at hb1 hb2 hm
          have hmi : (m : Int) < (n : Int) := by omega
          clear h hk hx hat ht hn v0 v1
          go_enter Try.func10, Try.ntmps10
          go_wp2_with fail
          refine HH.out.mono ?_
          rintro e w1 ⟨rfl, rfl⟩
          go_wp2_with fail
          go_ret
          exact ⟨rfl, HF.out, HT.out⟩
        | some p =>
          obtain ⟨pv, ps⟩ := p
          have hcs := h.at hm (a := .bool true) (b := .int .i64 pv) (d := .int .i64 ps) (by rw [hx]; rfl)
          obtain ⟨c0, c1, c2⟩ := hcs
          have HV2 := Lib.hid (HAl.out (.bool true) (.int .i64 pv) (.int .i64 ps))
          have hb2 := HV2.out.blk.cell 1
          simp only [List.getElem?_toArray, List.getElem?_cons_zero, List.getElem?_cons_succ] at hb2
          have hb1 := HB.out.cell 1
          simp only [List.getElem?_toArray, List.getElem?_cons_zero, List.getElem?_cons_succ] at hb1
          have HT1 := Lib.hid (HTa.out (.bool true) (.int .i64 pv) (.int .i64 ps))
          by_cases hp : pv < vw
          · have ht : takesC L (m : Int) vw := ⟨hk, v0, v1, fun y hy => by rw [hat] at hy; injection hy with hy; subst hy; exact hp⟩
            rw [ptC_good ht]
            have gp : decide (vw ≤ pv) = false := decide_eq_false (by omega)
            obtain ⟨d0, d1, d2⟩ := HV2.out.at hm (a := .bool true) (b := .int .i64 pv) (d := .int .i64 ps) (by rw [hx]; rfl)
            have e0 := HV2.out.frozen (m * 3)
            have e1 := HV2.out.frozen (m * 3 + 1)
            have e2 := HV2.out.frozen (m * 3 + 2)
            have HF := Lib.hid (HPut.out _ HV2.out)
            have HT := Lib.hid ((HT1.out.set_ ⟨g, m * 3, none⟩ (.bool true) rfl).set_ ⟨g, m * 3 + 1, none⟩ (.int .i64 vw) rfl |>.set_ ⟨g, m * 3 + 2, none⟩ (.int .i64 sg) rfl)
            obtain ⟨n, hn⟩ : ∃ n, L.length = n := ⟨_, rfl⟩
            rw [hn] at hb1 hb2 hm
            have hmi : (m : Int) < (n : Int) := by omega
            clear h hk hx hat ht hn v0 v1 hp
            go_enter Try.func10, Try.ntmps10
            go_wp2_with fail
            refine HH.out.mono ?_
            rintro e w1 ⟨rfl, rfl⟩
            go_wp2_with fail
            go_ret
            exact ⟨rfl, HF.out, HT.out⟩
          · have ht : ¬ takesC L (m : Int) vw := fun e => hp (e.2.2.2 _ hat)
            rw [ptC_bad ht]
            have gp : decide (vw ≤ pv) = true := decide_eq_true (by omega)
            obtain ⟨n, hn⟩ : ∃ n, L.length = n := ⟨_, rfl⟩
            rw [hn] at hb1 hb2 hm
            have hmi : (m : Int) < (n : Int) := by omega
            clear h hk hx hat ht hn v0 v1 hp
            go_enter Try.func10, Try.ntmps10
            go_wp2_with fail
            refine HH.out.mono ?_
            rintro e w1 ⟨rfl, rfl⟩
            go_wp2_with fail
            go_ret
            exact ⟨rfl, HV2.out, HT1.out⟩
      · rw [ptC_bad (fun e => v1 e.2.2.1)]
        have g0 : decide (vw < 0) = false := decide_eq_false (by omega)
        have g1 : decide (12 ≤ vw) = true := decide_eq_true (by omega)
        clear h hk v0 v1
        go_enter Try.func10, Try.ntmps10
        go_wp2_with fail
        refine HH.out.mono ?_
        rintro e w1 ⟨rfl, rfl⟩
        go_wp2_with fail
        go_ret
        exact ⟨rfl, HV.out, Turn.refl _ _⟩
    · rw [ptC_bad (fun e => v0 e.2.1)]
      have g0 : decide (vw < 0) = true := decide_eq_true (by omega)
      clear h hk v0
      go_enter Try.func10, Try.ntmps10
      go_wp2_with fail
      refine HH.out.mono ?_
      rintro e w1 ⟨rfl, rfl⟩
      go_wp2_with fail
      go_ret
      exact ⟨rfl, HV.out, Turn.refl _ _⟩
  · rw [decide_eq_false hk] at HH
    rw [ptC_bad (fun e => hk e.1)]
    clear h hk
    go_enter Try.func10, Try.ntmps10
    go_wp2_with fail
    refine HH.out.mono ?_
    rintro e w1 ⟨rfl, rfl⟩
    go_wp2_with fail
    go_ret
    exact ⟨rfl, HV.out, Turn.refl _ _⟩
end
theorem made_cws (n : Nat) : madeCells #[.bool false, .int .i64 0, .int .i64 0] (n * 3) = (rowC (List.replicate n none)).toArray := by
  apply Array.ext_getElem?
  intro j
  by_cases hj : j < n * 3
  · have hk : j / 3 < n := by omega
    have hk2 : j / 3 < (List.replicate n (none : Cw)).length := by simpa using hk
    have hi : j % 3 < 3 := Nat.mod_lt _ (by omega)
    have h1 := flatMap_at (f := cwCells) cw_len hk2 hi
    have h2 : j / 3 * 3 + j % 3 = j := by omega
    rw [h2] at h1
    refine Eq.trans ?_ (List.getElem?_toArray (xs := rowC (List.replicate n none))).symm
    rw [show (rowC (List.replicate n none))[j]? = _ from h1, List.getElem_replicate]
    have h3 : j % 3 = 0 ∨ j % 3 = 1 ∨ j % 3 = 2 := by omega
    rcases h3 with h3 | h3 | h3 <;> (simp [madeCells, hj, h3, cwCells])
  · rw [Array.getElem?_eq_none (by rw [size_madeCells]; omega), Array.getElem?_eq_none (by rw [List.size_toArray, rowC_len, List.length_replicate]; omega)]
theorem run_make_cws {n : Nat} (h : n ≤ 13) (w : World) :
    (Instr.makeSlice 55 (.int .i64 (n : Int)) (.int .i64 (n : Int))).run Try.prog w = .ok (.slice (some ⟨w.heap.size, 0, none⟩) n n) (w.alloc (.cells (rowC (List.replicate n none)).toArray 60)) := by
  obtain ⟨i0, hi0, hz0, hz1, hz2⟩ := info_parts info_cw
  have hr := run_make (P := Try.prog) w 55 60 i0 _ Try.underlying55 hi0 hz0 .i64 .i64 n n (by omega) (by omega) (by rw [hz2]; omega) (by omega)
  simp only [Int.toNat_natCast] at hr
  rw [hz1] at hr
  rw [← made_cws]
  exact hr
set_option maxHeartbeats 400000 in
theorem cvnew_in {f : Int} {n : Nat} (h1 : 1 ≤ f) (h4 : f ≤ 4) (hn : (n : Int) = 3 * f + 1) (w : World) : Calls Try.prog 8 #[.int .i64 f] w fun e w' => ∃ vb g c, e = .returned (.tuple #[.pointer (some ⟨vb, 0, none⟩), .int .i64 0]) ∧ Vq w' vb g c f (List.replicate n none) ∧ w.heap.size ≤ vb ∧ w.heap.size ≤ g ∧ Below w.heap.size w w' := by
  have hmk := run_make_cws (n := n) (by omega)
  have hs : (rowC (List.replicate n none)).toArray.size = n * 3 := by rw [List.size_toArray, rowC_len, List.length_replicate]
  have HO := Lib.hid (fun w => World.ownsRow_lit (e := 60) (size := 3) (base := 0) w (rowC (List.replicate n none)).toArray n (Nat.zero_le _) (by unfold maxLen; omega) hs)
  have HN := Lib.hid (fun (w : World) => (show Calls Try.prog 21 #[.int .i64 f] w fun e w' => e = .returned (.int .i64 (n : Int)) ∧ w' = w from by
    have := bnodes_any f w
    rw [nodesS_in h1 h4, ← hn] at this
    exact this.mono fun _ _ he => ⟨he.1, he.2.symm⟩))
  have a1 : decide (f < 1) = false := decide_eq_false (by omega)
  have a2 : decide (4 < f) = false := decide_eq_false (by omega)
  obtain ⟨cs, hcs⟩ : ∃ cs, (rowC (List.replicate n none)).toArray = cs := ⟨_, rfl⟩
  have HC := Lib.hid hcs
  rw [hcs] at hmk HO
  have H1 := Lib.hid (And.intro h1 (And.intro h4 hn))
  clear h1 h4 hn hs hcs
  go_enter Try.func8, Try.ntmps8
  go_wp2_with fail
  refine (HN.out _).mono ?_
  rintro e w1 ⟨rfl, rfl⟩
  go_wp2_with fail
  go_ret2
  have hb1 : Below w1.heap.size w1 (w1.alloc (.cells cs 60)) := (Below.refl _ _).alloc (Nat.le_refl _) _
  have hs1 : (w1.alloc (.cells cs 60)).heap.size = w1.heap.size + 1 := by simp
  have hlen : (List.replicate n (none : Cw)).length = n := List.length_replicate
  refine ⟨_, w1.heap.size, n, rfl, ⟨?_, ?_, H1.out.1, H1.out.2.1, by rw [hlen]; exact H1.out.2.2, okC_new n⟩, by omega, Nat.le_refl _, hb1.alloc (by rw [hs1]; omega) _⟩
  · rw [hlen]; exact Blk.new1 w1 _ _ _
  · rw [hlen]
    have := below_own (B := (w1.alloc (.cells cs 60)).heap.size) (HO.out w1) ((Below.refl _ _).alloc (Nat.le_refl _) (.cells #[.int .i64 f, .slice (some ⟨w1.heap.size, 0, none⟩) n n] 57)) (Nat.le_refl _)
    rwa [← HC.out, List.toList_toArray, HC.out] at this
theorem cvnew_out {f : Int} (h : ¬ (1 ≤ f ∧ f ≤ 4)) (w : World) : Calls Try.prog 8 #[.int .i64 f] w fun e w' => e = .returned (.tuple #[.pointer none, .int .i64 1]) ∧ w = w' := by
  by_cases b1 : f < 1
  · have a1 : decide (f < 1) = true := decide_eq_true b1
    clear h
    go_enter Try.func8, Try.ntmps8
    go_wp2
    go_ret2
    exact ⟨rfl, rfl⟩
  · have a1 : decide (f < 1) = false := decide_eq_false b1
    have a2 : decide (4 < f) = true := decide_eq_true (by omega)
    clear h
    go_enter Try.func8, Try.ntmps8
    go_wp2
    go_ret2
    exact ⟨rfl, rfl⟩
set_option maxHeartbeats 400000 in
theorem cw_clone {n : Nat} {g c : Nat} {zs : List Cw} {w : World} (h1 : Has w w.heap.size (some ⟨g, 0, none⟩) (rowC zs)) (hn : zs.length = n) (hm : n ≤ 1000000) :
    Calls Try.prog 28 #[.slice (some ⟨g, 0, none⟩) n c] w fun e w' => ∃ v, e = .returned v ∧ w'.ownsRow w.heap.size 60 3 v n (rowC zs) ∧ Below w.heap.size w w' := by
  have hq := fun (w : World) => Lib.run_eql_slice_nil w 55 60 (some ⟨g, 0, none⟩) n c 0 0 Try.underlying55
  obtain ⟨i0, hi0, hx0, hx1, hx2⟩ := info_parts info_cw
  have hL : (rowC zs).length = n * 3 := by rw [rowC_len, hn]
  have h6 := rowC_one zs
  have hh := h1.tight.below ((Below.refl _ _).alloc (Nat.le_refl _) (.cells #[] 60)) (Nat.le_refl _)
  have ho := World.ownsRow_made (e := 60) (size := 3) w #[] 0 (Nat.le_refl _) (by unfold maxLen; omega) (by simp)
  have HB := Lib.hid (show Below w.heap.size w (w.alloc (.cells #[] 60)) from (Below.refl _ _).alloc (Nat.le_refl _) _)
  have HO := Lib.hid ho
  have HH := Lib.hid hh
  have H6 := Lib.hid h6
  have HLn := Lib.hid hL
  have hm1 := Lib.hid (show 0 + n ≤ maxLen by unfold maxLen; omega)
  have hm2 := Lib.hid (show (0 + n) * 24 ≤ 140737488355328 by omega)
  clear ho hh h6 hL h1
  go_enter Try.func28, Try.ntmps28
  go_wp2_with (at_builtin; refine wpList_apps rfl _ _ 55 rfl w.heap.size 60 i0 _ 3 24 Try.underlying55 hi0 hx0 hx1 hx2 rfl (by decide) _ 0 [] rfl HO.out _ (some ⟨g, 0, none⟩) n c (rowC zs) rfl HLn.out HH.out (fun e => by cases e) H6.out hm1.out hm2.out HB.out.size ?_)
  intro v w1 ho hg _
  have HR := Lib.hid ho
  have HG := Lib.hid (HB.out.grown hg HB.out.size (fun k hk => by cases hk; exact Nat.le_refl _))
  clear ho hg
  go_wp2
  go_ret
  exact ⟨v, rfl, HR.out, HG.out⟩
set_option maxHeartbeats 400000 in
theorem cvclone_any {w : World} {vb g c : Nat} {f : Int} {L : List Cw} (h : Vq w vb g c f L) : Calls Try.prog 18 #[.pointer (some ⟨vb, 0, none⟩)] w fun e w' => ∃ db g' c', e = .returned (.pointer (some ⟨db, 0, none⟩)) ∧ Vq w' db g' c' f L ∧ w.heap.size ≤ db ∧ w.heap.size ≤ g' ∧ Below w.heap.size w w' := by
  have HV := Lib.hid h
  have hlen : L.length ≤ 13 := by have := h.n1; have := h.f4; omega
  have HC := Lib.hid (fun (w' : World) (hz : Vq w' vb g c f L) => cw_clone (c := c) (has_rows hz.row) rfl (by omega))
  have h0 := h.blk.cell 0
  have h1 := h.blk.cell 1
  simp only [List.getElem?_toArray, List.getElem?_cons_zero, List.getElem?_cons_succ] at h0 h1
  have H1 := Lib.hid (show 1 ≤ L.length by have := h.n1; have := h.f1; omega)
  obtain ⟨n, hn⟩ : ∃ n, L.length = n := ⟨_, rfl⟩
  rw [hn] at h1 HC
  have HN := Lib.hid hn
  have HCw := Lib.hid (HC.out w.drew h.drew)
  have HB := Lib.hid h.blk.drew
  rw [hn] at HB
  have c0 : w.drew.cell? ⟨vb, 0, none⟩ = some (.int .i64 f) := h0
  have c1 : w.drew.cell? ⟨vb, 1, none⟩ = some (.slice (some ⟨g, 0, none⟩) n c) := h1
  clear h hn hlen h0 h1 HC
  go_enter Try.func18, Try.ntmps18
  go_wp2_with fail
  go_region_held3 (fun w' => w'.cell? ⟨vb, 0, none⟩ = some (.int .i64 f) ∧ w'.cell? ⟨vb, 1, none⟩ = some (.slice (some ⟨g, 0, none⟩) n c)) (first | exact ⟨c0, c1⟩ | exact hq2 | go_keep)
    ((go_at_call 28; refine HCw.out.mono ?_; rintro e w2 ⟨v', rfl, ho, hb⟩; have hbk := HB.out.below hb HB.out.lt; have hq2 : w2.cell? ⟨vb, 0, none⟩ = some (.int .i64 f) ∧ w2.cell? ⟨vb, 1, none⟩ = some (.slice (some ⟨g, 0, none⟩) n c) := ⟨hbk.cell 0, hbk.cell 1⟩; obtain ⟨A2, d2, rfl, -, -⟩ := own_slice ho))
  have HO := Lib.hid ho
  have HBb := Lib.hid (show Below w.heap.size w w2 from Below.trans (⟨rfl, rfl, rfl, Nat.le_refl _, fun _ _ => rfl⟩ : Below w.heap.size w w.drew) hb)
  clear ho hb hbk hq2 c0 c1
  go_wp2_with fail
  go_ret
  obtain ⟨g', rfl, hg'⟩ : ∃ g', A2 = some ⟨g', 0, none⟩ ∧ w.heap.size ≤ g' := by
    rcases HO.out.2 with ⟨e, _⟩ | ⟨g', cap, cur, e, hg, _⟩
    · injection e with e1 e2 e3
      have := H1.out; have := HN.out; omega
    · injection e with e1
      exact ⟨g', e1, hg⟩
  refine ⟨w2.heap.size, g', d2, rfl, ⟨?_, ?_, HV.out.f1, HV.out.f4, HV.out.n1, HV.out.ok⟩, HBb.out.size, hg', HBb.out.alloc HBb.out.size _⟩
  · rw [HN.out]; exact Blk.new w2 _ _
  · rw [HN.out]
    have := below_own (B := w2.heap.size) HO.out ((Below.refl _ _).alloc (Nat.le_refl _) (.cells #[.int .i64 f, .slice (some ⟨g', 0, none⟩) n d2] 57)) (Nat.le_refl _)
    refine ⟨this.1, ?_⟩
    rcases this.2 with h | ⟨a, b, d, e1, e2, e3⟩
    · exact Or.inl h
    · exact Or.inr ⟨a, b, d, e1, Nat.zero_le _, e3⟩
end Go.Proofs.Ytfbipebijelfjaa
