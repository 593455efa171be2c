/- Package cache: Same, Clone; the example of the document. -/
import Derived.Test.YtpjcedilkahpiaaCache
import Derived.Test.YtpjcedilkahpiaaSameVotes
namespace Go.Proofs.Ytpjcedilkahpiaa
open Go.RowKit Go.Maps

theorem fields_rep : Try.prog.underlying 89 = some (.struct (Try.prog.fieldsOf 89)) := by kernel_rfl
theorem guard_rep (op : BinOp) (x y : Operand) (xs ys : Array Value) (w : World) : (eqGuard op 89 x y (.agg xs) (.agg ys)).run Try.prog w = .ok () w := run_eqGuard_agg w op 89 x y xs ys (by kernel_rfl)
theorem equal_rep (x y : Int × Int) (d : Nat) (w : World) : (Op.equalIn (d + 2) 89 (.agg #[.int .i64 x.1, .int .i64 x.2]) (.agg #[.int .i64 y.1, .int .i64 y.2])).run Try.prog w = .ok (decide (x = y)) w := by
  rw [run_equalIn_struct w (d + 1) 89 _ _ fields_rep (by kernel_rfl)]
  obtain ⟨a, b⟩ := x
  obtain ⟨c, e⟩ := y
  have hf : (Try.prog.fieldsOf 89).toList = [⟨ "time", 3, 0, false, "", "psephos/cache", 0⟩, ⟨ "res", 3, 1, false, "", "psephos/cache", 8⟩] := by kernel_rfl
  rw [hf]
  by_cases h1 : a = c
  · by_cases h2 : b = e
    · simp [Op.eqFields, part, go_sem, h1, h2]
    · simp [Op.eqFields, part, go_sem, h1, h2]
  · simp [Op.eqFields, part, go_sem, h1]
theorem neq_rep {x y : Int × Int} {r : Bool} (h : (!decide (x = y)) = r) (w : World) : (binOp .neq 89 (.agg #[.int .i64 x.1, .int .i64 x.2]) (.agg #[.int .i64 y.1, .int .i64 y.2])).run Try.prog w = .ok (.bool r) w := by
  rw [run_neq_struct, equal_rep x y 9998 w, ← h]
  rfl
set_option maxHeartbeats 400000 in
theorem ch_equal (A A' : Option Addr) (c c' : Nat) (zs ys : List (Int × Int)) (B B' : Nat) (w : World) (hl : zs.length ≤ 9223372036854775806) (h1 : Has w B A (pairCells zs)) (h2 : Has w B' A' (pairCells ys)) :
    Calls Try.prog 56 #[.slice A zs.length c, .slice A' ys.length c'] w fun e w' => e = .returned (.bool (sameL zs ys)) ∧ ∃ nq, w' = w.drewN nq := by
  have H1 := Lib.hid h1
  have H2 := Lib.hid h2
  clear h1 h2
  by_cases hlen : zs.length = ys.length
  · have HL := Lib.hid hlen
    go_enter Try.func56, Try.ntmps56
    go_wp2
    clear hlen
    go_loopw [13] (fun x wr => ∃ (k nq : Nat), x = .int .i64 k ∧ k ≤ zs.length ∧ wr = w.drewN nq ∧ Hid (zs.take k = ys.take k)) (fun x _ => zs.length - (intOf x).toNat)
    case atStart => exact ⟨0, 0, rfl, Nat.zero_le _, rfl, rfl⟩
    case round =>
      obtain ⟨k, nq, rfl, hk, rfl, HT⟩ := hrel
      by_cases hlt : k < zs.length
      · have hlt2 : k < ys.length := by rw [← HL.out]; exact hlt
        obtain ⟨a1, rfl, _, c0, c1⟩ := pair_at H1.out hlt
        obtain ⟨a2, rfl, _, d0, d1⟩ := pair_at H2.out hlt2
        obtain ⟨x, hx⟩ : ∃ x, zs[k] = x := ⟨_, rfl⟩
        obtain ⟨y, hy⟩ : ∃ y, ys[k] = y := ⟨_, rfl⟩
        rw [hx] at c0 c1
        rw [hy] at d0 d1
        have HX := Lib.hid hx
        have HY := Lib.hid hy
        clear hx hy
        have G := fun (w : World) => guard_rep .neq (.tmp 19) (.tmp 23) #[.int .i64 x.1, .int .i64 x.2] #[.int .i64 y.1, .int .i64 y.2] w
        by_cases hxy : x = y
        · have E := fun (w : World) => neq_rep (x := x) (y := y) (r := false) (by simp [hxy]) w
          have HT2 := Lib.hid (takeL_next hlt hlt2 HT.out (HX.out.trans (hxy.trans HY.out.symm)))
          clear hxy
          go_wp2
          go_quiet (fail)
          clear E G
          go_wp2
          go_roundw
          case rel => exact ⟨k + 1, _, by go_num, by omega, rfl, HT2.out⟩
          case measure => simp [intOf]; omega
        · have E := fun (w : World) => neq_rep (x := x) (y := y) (r := true) (by simp [hxy]) w
          have HS := Lib.hid (sameL_far hlt hlt2 (by rw [HX.out, HY.out]; exact hxy))
          clear hxy
          go_wp2
          go_quiet (fail)
          clear E G
          go_wp2
          go_ret
          exact ⟨by rw [HS.out]; rfl, ⟨_, World.drewN_drewN _ _ _⟩⟩
      · have HS := Lib.hid (sameL_end (by omega : zs.length ≤ k) HT.out HL.out)
        have hlt2 : ¬ k < ys.length := by rw [← HL.out]; exact hlt
        go_wp2
        go_ret
        exact ⟨by rw [HS.out]; rfl, ⟨_, rfl⟩⟩
  · have HS := Lib.hid (sameL_len hlen)
    have hb : decide (zs.length = ys.length) = false := by simpa using hlen
    have hb2 : ((zs.length : Int) != ys.length) = true := by simp; omega
    go_enter Try.func56, Try.ntmps56
    go_wp2
    go_ret
    exact ⟨by rw [HS.out]; rfl, ⟨0, rfl⟩⟩
section
variable {w : World} {cb g c db g' c' : Nat} {L M : List (Int × Int)}
theorem csame_any (h : Ch w cb g c L) (h' : Ch w db g' c' M) : Calls Try.prog 41 #[.pointer (some ⟨cb, 0, none⟩), .pointer (some ⟨db, 0, none⟩)] w fun e w' => e = .returned (.bool (sameL L M)) ∧ ∃ n, w' = w.drewN n := by
  have HC := Lib.hid (fun n => ch_equal (some ⟨g, 0, none⟩) (some ⟨g', 0, none⟩) c c' L M (w.drewN n).heap.size (w.drewN n).heap.size (w.drewN n) (by have := h.l4; omega) (has_rows (h.drewN n).row) (has_rows (h'.drewN n).row))
  have h0 := fun n => (h.drewN n).blk.cell 0
  have h1 := fun n => (h'.drewN n).blk.cell 0
  simp only [List.getElem?_toArray, List.getElem?_cons_zero] at h0 h1
  obtain ⟨n, hn⟩ : ∃ n, L.length = n := ⟨_, rfl⟩
  obtain ⟨m, hm⟩ : ∃ n, M.length = n := ⟨_, rfl⟩
  rw [hn] at h0 HC
  rw [hm] at h1 HC
  clear h h' hn hm
  go_enter Try.func41, Try.ntmps41
  go_wp2_with fail
  have d0 : w.drew.cell? ⟨cb, 0, none⟩ = _ := h0 1
  have d1 : w.drew.cell? ⟨db, 0, none⟩ = _ := h1 1
  clear h0 h1
  go_region_law (go_simp; go_at_call 56; refine (HC.out 1).mono ?_; rintro e w1 ⟨rfl, k, rfl⟩)
  all_goals
    go_wp2_with fail
    go_ret
    exact ⟨rfl, _, rfl⟩
set_option maxHeartbeats 400000 in
theorem reps_clone {n : Nat} {g c : Nat} {zs : List (Int × Int)} {w : World} (h1 : Has w w.heap.size (some ⟨g, 0, none⟩) (pairCells zs)) (hn : zs.length = n) (hm : n ≤ 1000000) :
    Calls Try.prog 58 #[.slice (some ⟨g, 0, none⟩) n c] w fun e w' => ∃ v, e = .returned v ∧ w'.ownsRow w.heap.size 89 2 v n (pairCells zs) ∧ Below w.heap.size w w' := by
  have hq := fun (w : World) => Lib.run_eql_slice_nil w 90 89 (some ⟨g, 0, none⟩) n c 0 0 Try.underlying90
  obtain ⟨i0, hi0, hx0, hx1, hx2⟩ := info_parts info_rep
  have hL : (pairCells zs).length = n * 2 := by rw [pairCells_len, hn]
  have h6 := pairCells_one zs
  have hh := h1.tight.below ((Below.refl _ _).alloc (Nat.le_refl _) (.cells #[] 89)) (Nat.le_refl _)
  have ho := World.ownsRow_made (e := 89) (size := 2) w #[] 0 (Nat.le_refl _) (by unfold maxLen; omega) (by simp)
  have HB := Lib.hid (show Below w.heap.size w (w.alloc (.cells #[] 89)) from (Below.refl _ _).alloc (Nat.le_refl _) _)
  have HO := Lib.hid ho
  have HH := Lib.hid hh
  have H6 := Lib.hid h6
  have HLn := Lib.hid hL
  have hm1 := Lib.hid (show 0 + n ≤ maxLen by unfold maxLen; omega)
  have hm2 := Lib.hid (show (0 + n) * 16 ≤ 140737488355328 by omega)
  clear ho hh h6 hL h1
  go_enter Try.func58, Try.ntmps58
  go_wp2_with (at_builtin; refine wpList_apps rfl _ _ 90 rfl w.heap.size 89 i0 _ 2 16 Try.underlying90 hi0 hx0 hx1 hx2 rfl (by decide) _ 0 [] rfl HO.out _ (some ⟨g, 0, none⟩) n c (pairCells zs) rfl HLn.out HH.out (fun e => by cases e) H6.out hm1.out hm2.out HB.out.size ?_)
  intro v w1 ho hg _
  have HR := Lib.hid ho
  have HG := Lib.hid (HB.out.grown hg HB.out.size (fun k hk => by cases hk; exact Nat.le_refl _))
  clear ho hg
  go_wp2
  go_ret
  exact ⟨v, rfl, HR.out, HG.out⟩
set_option maxHeartbeats 400000 in
theorem cclone_any (h : Ch w cb g c L) : Calls Try.prog 49 #[.pointer (some ⟨cb, 0, none⟩)] w fun e w' => ∃ db g' c', e = .returned (.pointer (some ⟨db, 0, none⟩)) ∧ Ch w' db g' c' L ∧ w.heap.size ≤ db ∧ w.heap.size ≤ g' ∧ Below w.heap.size w w' := by
  have HC := Lib.hid (reps_clone (c := c) (has_rows h.row) rfl (by have := h.l4; omega))
  have hcell := h.blk.cell 0
  simp only [List.getElem?_toArray, List.getElem?_cons_zero] at hcell
  have H1 := Lib.hid h.l1
  have H4 := Lib.hid h.l4
  obtain ⟨n, hn⟩ : ∃ n, L.length = n := ⟨_, rfl⟩
  rw [hn] at hcell HC
  have HN := Lib.hid hn
  clear h hn
  go_enter Try.func49, Try.ntmps49
  go_wp2_with fail
  refine HC.out.mono ?_
  rintro e w1 ⟨v, rfl, ho, hb⟩
  obtain ⟨A, c', rfl, q1, q2⟩ := own_slice ho
  obtain ⟨g', rfl, hg'⟩ : ∃ g', A = some ⟨g', 0, none⟩ ∧ w.heap.size ≤ g' := by
    rcases ho.2 with ⟨e, _⟩ | ⟨g', cap, cur, e, hg, _⟩
    · injection e with e1 e2 e3
      have := H1.out; have := HN.out; omega
    · injection e with e1
      exact ⟨g', e1, hg⟩
  have HO := Lib.hid ho
  have HB := Lib.hid hb
  clear ho hb
  go_wp2_with fail
  go_ret
  have hb2 : Below w.heap.size w (w1.alloc (.cells #[.slice (some ⟨g', 0, none⟩) n c'] 92)) := HB.out.alloc HB.out.size _
  refine ⟨_, g', c', rfl, ⟨?_, ?_, H1.out, H4.out⟩, HB.out.size, hg', hb2⟩
  · rw [HN.out]; exact Blk.new w1 _ _
  · rw [HN.out]
    have := below_own (B := w1.heap.size) HO.out ((Below.refl _ _).alloc (Nat.le_refl _) (.cells #[.slice (some ⟨g', 0, none⟩) n c'] 92)) (Nat.le_refl _)
    refine ⟨this.1, ?_⟩
    rcases this.2 with h | ⟨a, b, d, e1, e2, e3⟩
    · exact Or.inl h
    · exact Or.inr ⟨a, b, d, e1, Nat.zero_le _, e3⟩
end
end Go.Proofs.Ytpjcedilkahpiaa
