/- Entries of a ledger: a request and its result each, as they lie; slices.Equal, slices.Clone, keep.Same, keep.Copy at entries. -/
import Derived.Test.YtpjcedilkahpiaaSameVotes
import Derived.Test.YtpjcedilkahpiaaApps
import Derived.Test.YtpjcedilkahpiaaRow4
namespace Go.Proofs.Ytpjcedilkahpiaa
open Go.RowKit

/-- An entry: a request and its result. -/
structure En where
  r : Rq
  x : Int
deriving DecidableEq
def En.cells (e : En) : List Value := [.int .i64 e.r.cl, .int .i64 e.r.tm, .int .i64 e.r.kd, .int .i64 e.r.ky, .int .i64 e.r.vl, .int .i64 e.r.sg, .int .i64 e.x]
def entCells (l : List En) : List Value := l.flatMap En.cells
theorem entCells_len (l : List En) : (entCells l).length = l.length * 7 := flatMap_len (s := 7) (f := En.cells) (fun _ => rfl) l
theorem entCells_app (l m : List En) : entCells (l ++ m) = entCells l ++ entCells m := List.flatMap_append
theorem entCells_one (l : List En) : ∀ u ∈ entCells l, u.oneCell' = true := by
  intro u hu
  obtain ⟨e, _, h⟩ := List.mem_flatMap.1 hu
  simp only [En.cells, List.mem_cons, List.not_mem_nil, or_false] at h
  rcases h with rfl | rfl | rfl | rfl | rfl | rfl | rfl <;> rfl
/-- An entry of a row. -/
theorem Has.ent {w : World} {B : Nat} {A : Option Addr} {l : List En} (h : Has w B A (entCells l)) {k : Nat} (hk : k < l.length) :
    ∃ ad, A = some ad ∧ ad.block < B ∧ w.cell? (ad.add (k * 7)) = some (.int .i64 l[k].r.cl) ∧ w.cell? ⟨(ad.add (k * 7)).block, (ad.add (k * 7)).off + 1, none⟩ = some (.int .i64 l[k].r.tm) ∧
      w.cell? ⟨(ad.add (k * 7)).block, (ad.add (k * 7)).off + 2, none⟩ = some (.int .i64 l[k].r.kd) ∧ w.cell? ⟨(ad.add (k * 7)).block, (ad.add (k * 7)).off + 3, none⟩ = some (.int .i64 l[k].r.ky) ∧
      w.cell? ⟨(ad.add (k * 7)).block, (ad.add (k * 7)).off + 4, none⟩ = some (.int .i64 l[k].r.vl) ∧ w.cell? ⟨(ad.add (k * 7)).block, (ad.add (k * 7)).off + 5, none⟩ = some (.int .i64 l[k].r.sg) ∧
      w.cell? ⟨(ad.add (k * 7)).block, (ad.add (k * 7)).off + 6, none⟩ = some (.int .i64 l[k].x) := by
  obtain ⟨ad, e, hb, hc⟩ := h.thing (f := En.cells) (s := 7) (fun _ => rfl) (by omega) hk
  refine ⟨ad, e, hb, hc 0 _ rfl, ?_, ?_, ?_, ?_, ?_, ?_⟩
  · rw [← add_pos _ _ _ (by omega)]; exact hc 1 _ rfl
  · rw [← add_pos _ _ _ (by omega)]; exact hc 2 _ rfl
  · rw [← add_pos _ _ _ (by omega)]; exact hc 3 _ rfl
  · rw [← add_pos _ _ _ (by omega)]; exact hc 4 _ rfl
  · rw [← add_pos _ _ _ (by omega)]; exact hc 5 _ rfl
  · rw [← add_pos _ _ _ (by omega)]; exact hc 6 _ rfl
/-- A beginning of a row of things is a row. -/
theorem Has.ents_take {w : World} {B : Nat} {A : Option Addr} {l : List En} (h : Has w B A (entCells l)) (k : Nat) : Has w B A (entCells (l.take k)) := fun j u hj => by
  refine h j u ?_
  have e : entCells l = entCells (l.take k) ++ entCells (l.drop k) := by rw [← entCells_app, List.take_append_drop]
  rw [e, List.getElem?_append_left (List.getElem?_eq_some_iff.1 hj).1]
  exact hj
theorem fields_ent : Try.prog.underlying 36 = some (.struct (Try.prog.fieldsOf 36)) := by kernel_rfl
theorem guard_ent (op : BinOp) (x y : Operand) (xs ys : Array Value) (w : World) : (eqGuard op 36 x y (.agg xs) (.agg ys)).run Try.prog w = .ok () w := run_eqGuard_agg w op 36 x y xs ys (by kernel_rfl)
theorem equal_ent (x y : En) (d : Nat) (w : World) : (Op.equalIn (d + 4) 36 (.agg #[.int .i64 x.r.cl, .int .i64 x.r.tm, .int .i64 x.r.kd, .int .i64 x.r.ky, .int .i64 x.r.vl, .int .i64 x.r.sg, .int .i64 x.x]) (.agg #[.int .i64 y.r.cl, .int .i64 y.r.tm, .int .i64 y.r.kd, .int .i64 y.r.ky, .int .i64 y.r.vl, .int .i64 y.r.sg, .int .i64 y.x])).run Try.prog w = .ok (decide (x = y)) w := by
  rw [run_equalIn_struct w (d + 3) 36 _ _ fields_ent (by kernel_rfl)]
  obtain ⟨⟨a1, a2, a3, a4, a5, a6⟩, a7⟩ := x
  obtain ⟨⟨b1, b2, b3, b4, b5, b6⟩, b7⟩ := y
  have hf : (Try.prog.fieldsOf 36).toList = [⟨ "Req", 34, 0, false, "", "", 0⟩, ⟨ "Res", 3, 6, false, "", "", 48⟩] := by kernel_rfl
  rw [hf]
  have ho : ∀ w, (Op.equalIn (d + 3) 34 (.agg #[.int .i64 a1, .int .i64 a2, .int .i64 a3, .int .i64 a4, .int .i64 a5, .int .i64 a6]) (.agg #[.int .i64 b1, .int .i64 b2, .int .i64 b3, .int .i64 b4, .int .i64 b5, .int .i64 b6])).run Try.prog w = .ok (decide ((⟨a1, a2, a3, a4, a5, a6⟩ : Rq) = ⟨b1, b2, b3, b4, b5, b6⟩)) w := fun w => equal_req ⟨a1, a2, a3, a4, a5, a6⟩ ⟨b1, b2, b3, b4, b5, b6⟩ d w
  by_cases h1 : (⟨a1, a2, a3, a4, a5, a6⟩ : Rq) = ⟨b1, b2, b3, b4, b5, b6⟩
  · rw [decide_eq_true h1] at ho
    by_cases h2 : a7 = b7
    · rw [show decide ((⟨⟨a1, a2, a3, a4, a5, a6⟩, a7⟩ : En) = ⟨⟨b1, b2, b3, b4, b5, b6⟩, b7⟩) = true from decide_eq_true (by rw [h1, h2])]
      simp [Op.eqFields, part, go_sem, ho, h2]
    · rw [show decide ((⟨⟨a1, a2, a3, a4, a5, a6⟩, a7⟩ : En) = ⟨⟨b1, b2, b3, b4, b5, b6⟩, b7⟩) = false from decide_eq_false (fun h => h2 (by injection h))]
      simp [Op.eqFields, part, go_sem, ho, h2]
  · rw [decide_eq_false h1] at ho
    rw [show decide ((⟨⟨a1, a2, a3, a4, a5, a6⟩, a7⟩ : En) = ⟨⟨b1, b2, b3, b4, b5, b6⟩, b7⟩) = false from decide_eq_false (fun h => h1 (by injection h))]
    simp [Op.eqFields, part, go_sem, ho]
theorem neq_ent {x y : En} {r : Bool} (h : (!decide (x = y)) = r) (w : World) : (binOp .neq 36 (.agg #[.int .i64 x.r.cl, .int .i64 x.r.tm, .int .i64 x.r.kd, .int .i64 x.r.ky, .int .i64 x.r.vl, .int .i64 x.r.sg, .int .i64 x.x]) (.agg #[.int .i64 y.r.cl, .int .i64 y.r.tm, .int .i64 y.r.kd, .int .i64 y.r.ky, .int .i64 y.r.vl, .int .i64 y.r.sg, .int .i64 y.x])).run Try.prog w = .ok (.bool r) w := by
  rw [run_neq_struct, equal_ent x y 9996 w, ← h]
  rfl
set_option maxHeartbeats 1000000 in
theorem same_ents (A A' : Option Addr) (c c' : Nat) (zs ys : List En) (B : Nat) (w : World) (hl : zs.length ≤ 9223372036854775806) (h1 : Has w B A (entCells zs)) (h2 : Has w B A' (entCells ys)) :
    Calls Try.prog 27 #[.slice A zs.length c, .slice A' ys.length c'] w fun e w' => e = .returned (.bool (sameL zs ys)) ∧ ∃ nq, w' = w.drewN nq := by
  have H1 := Lib.hid h1
  have H2 := Lib.hid h2
  clear h1 h2
  by_cases hlen : zs.length = ys.length
  · have HL := Lib.hid hlen
    go_enter Try.func27, Try.ntmps27
    go_wp2
    clear hlen
    go_loopw [5] (fun x wr => ∃ (k nq : Nat), x = .int .i64 k ∧ k ≤ zs.length ∧ wr = w.drewN nq ∧ Hid (zs.take k = ys.take k)) (fun x _ => zs.length - (intOf x).toNat)
    case atStart => exact ⟨0, 0, rfl, Nat.zero_le _, rfl, rfl⟩
    case round =>
      obtain ⟨k, nq, rfl, hk, rfl, HT⟩ := hrel
      by_cases hlt : k < zs.length
      · have hlt2 : k < ys.length := by rw [← HL.out]; exact hlt
        obtain ⟨a1, rfl, _, c0, c1, c2, c3, c4, c5, c6⟩ := H1.out.ent hlt
        obtain ⟨a2, rfl, _, d0, d1, d2, d3, d4, d5, d6⟩ := H2.out.ent hlt2
        obtain ⟨x, hx⟩ : ∃ x, zs[k] = x := ⟨_, rfl⟩
        obtain ⟨y, hy⟩ : ∃ y, ys[k] = y := ⟨_, rfl⟩
        rw [hx] at c0 c1 c2 c3 c4 c5 c6
        rw [hy] at d0 d1 d2 d3 d4 d5 d6
        have HX := Lib.hid hx
        have HY := Lib.hid hy
        clear hx hy
        have G := fun (w : World) => guard_ent .neq (.tmp 20) (.tmp 24) #[.int .i64 x.r.cl, .int .i64 x.r.tm, .int .i64 x.r.kd, .int .i64 x.r.ky, .int .i64 x.r.vl, .int .i64 x.r.sg, .int .i64 x.x] #[.int .i64 y.r.cl, .int .i64 y.r.tm, .int .i64 y.r.kd, .int .i64 y.r.ky, .int .i64 y.r.vl, .int .i64 y.r.sg, .int .i64 y.x] w
        by_cases hxy : x = y
        · have E := fun (w : World) => neq_ent (x := x) (y := y) (r := false) (by simp [hxy]) w
          have HT2 := Lib.hid (takeL_next hlt hlt2 HT.out (HX.out.trans (hxy.trans HY.out.symm)))
          clear hxy
          go_wp2
          go_quiet (fail)
          clear E G
          go_wp2
          go_roundw
          case rel => exact ⟨k + 1, _, by go_num, by omega, rfl, HT2.out⟩
          case measure => simp [intOf]; omega
        · have E := fun (w : World) => neq_ent (x := x) (y := y) (r := true) (by simp [hxy]) w
          have HS := Lib.hid (sameL_far hlt hlt2 (by rw [HX.out, HY.out]; exact hxy))
          clear hxy
          go_wp2
          go_quiet (fail)
          clear E G
          go_wp2
          go_ret
          exact ⟨by rw [HS.out]; rfl, ⟨_, World.drewN_drewN _ _ _⟩⟩
      · have HS := Lib.hid (sameL_end (by omega : zs.length ≤ k) HT.out HL.out)
        go_wp2
        go_ret
        exact ⟨by rw [HS.out]; rfl, ⟨_, rfl⟩⟩
  · have HS := Lib.hid (sameL_len hlen)
    have hb : decide (zs.length = ys.length) = false := by simpa using hlen
    have hb2 : ((zs.length : Int) != ys.length) = true := by simp; omega
    go_enter Try.func27, Try.ntmps27
    go_wp2
    go_ret
    exact ⟨by rw [HS.out]; rfl, ⟨0, rfl⟩⟩
set_option maxHeartbeats 1000000 in
theorem ent_equal (A A' : Option Addr) (c c' : Nat) (zs ys : List En) (B B' : Nat) (w : World) (hl : zs.length ≤ 9223372036854775806) (h1 : Has w B A (entCells zs)) (h2 : Has w B' A' (entCells ys)) :
    Calls Try.prog 40 #[.slice A zs.length c, .slice A' ys.length c'] w fun e w' => e = .returned (.bool (sameL zs ys)) ∧ ∃ nq, w' = w.drewN nq := by
  have H1 := Lib.hid h1
  have H2 := Lib.hid h2
  clear h1 h2
  by_cases hlen : zs.length = ys.length
  · have HL := Lib.hid hlen
    go_enter Try.func40, Try.ntmps40
    go_wp2
    clear hlen
    go_loopw [13] (fun x wr => ∃ (k nq : Nat), x = .int .i64 k ∧ k ≤ zs.length ∧ wr = w.drewN nq ∧ Hid (zs.take k = ys.take k)) (fun x _ => zs.length - (intOf x).toNat)
    case atStart => exact ⟨0, 0, rfl, Nat.zero_le _, rfl, rfl⟩
    case round =>
      obtain ⟨k, nq, rfl, hk, rfl, HT⟩ := hrel
      by_cases hlt : k < zs.length
      · have hlt2 : k < ys.length := by rw [← HL.out]; exact hlt
        obtain ⟨a1, rfl, _, c0, c1, c2, c3, c4, c5, c6⟩ := H1.out.ent hlt
        obtain ⟨a2, rfl, _, d0, d1, d2, d3, d4, d5, d6⟩ := H2.out.ent hlt2
        obtain ⟨x, hx⟩ : ∃ x, zs[k] = x := ⟨_, rfl⟩
        obtain ⟨y, hy⟩ : ∃ y, ys[k] = y := ⟨_, rfl⟩
        rw [hx] at c0 c1 c2 c3 c4 c5 c6
        rw [hy] at d0 d1 d2 d3 d4 d5 d6
        have HX := Lib.hid hx
        have HY := Lib.hid hy
        clear hx hy
        have G := fun (w : World) => guard_ent .neq (.tmp 19) (.tmp 23) #[.int .i64 x.r.cl, .int .i64 x.r.tm, .int .i64 x.r.kd, .int .i64 x.r.ky, .int .i64 x.r.vl, .int .i64 x.r.sg, .int .i64 x.x] #[.int .i64 y.r.cl, .int .i64 y.r.tm, .int .i64 y.r.kd, .int .i64 y.r.ky, .int .i64 y.r.vl, .int .i64 y.r.sg, .int .i64 y.x] w
        by_cases hxy : x = y
        · have E := fun (w : World) => neq_ent (x := x) (y := y) (r := false) (by simp [hxy]) w
          have HT2 := Lib.hid (takeL_next hlt hlt2 HT.out (HX.out.trans (hxy.trans HY.out.symm)))
          clear hxy
          go_wp2
          go_quiet (fail)
          clear E G
          go_wp2
          go_roundw
          case rel => exact ⟨k + 1, _, by go_num, by omega, rfl, HT2.out⟩
          case measure => simp [intOf]; omega
        · have E := fun (w : World) => neq_ent (x := x) (y := y) (r := true) (by simp [hxy]) w
          have HS := Lib.hid (sameL_far hlt hlt2 (by rw [HX.out, HY.out]; exact hxy))
          clear hxy
          go_wp2
          go_quiet (fail)
          clear E G
          go_wp2
          go_ret
          exact ⟨by rw [HS.out]; rfl, ⟨_, World.drewN_drewN _ _ _⟩⟩
      · have HS := Lib.hid (sameL_end (by omega : zs.length ≤ k) HT.out HL.out)
        have hlt2 : ¬ k < ys.length := by rw [← HL.out]; exact hlt
        go_wp2
        go_ret
        exact ⟨by rw [HS.out]; rfl, ⟨_, rfl⟩⟩
  · have HS := Lib.hid (sameL_len hlen)
    have hb : decide (zs.length = ys.length) = false := by simpa using hlen
    have hb2 : ((zs.length : Int) != ys.length) = true := by simp; omega
    go_enter Try.func40, Try.ntmps40
    go_wp2
    go_ret
    exact ⟨by rw [HS.out]; rfl, ⟨0, rfl⟩⟩

theorem info_ent : (Try.prog.info? 36).map (fun i => (i.zero, i.size, i.bytes)) = some (some (.agg #[.int .i64 0, .int .i64 0, .int .i64 0, .int .i64 0, .int .i64 0, .int .i64 0, .int .i64 0]), 7, 56) := by kernel_rfl
/-- keep.Copy at entries: a row of the call's own with the same entries. -/
theorem mcopy_ents (A : Option Addr) (c n B : Nat) (l : List En) (w : World) (hl : l.length = n) (hm : n ≤ 1048576) (hh : Has w B A (entCells l)) (hn : A = none → c = 0) :
    Calls Try.prog 24 #[.slice A n c] w fun e w' => ∃ v, e = .returned v ∧ w'.ownsRow w.heap.size 36 7 v n (entCells l) ∧ Below w.heap.size w w' := by
  obtain ⟨i0, hi0, hx0, hx1, hx2⟩ := info_parts info_ent
  have hL : (entCells l).length = n * 7 := by rw [entCells_len, hl]
  have h6 := entCells_one l
  go_enter Try.func24, Try.ntmps24
  go_wp2_with (at_builtin; refine wpList_apps rfl _ _ 29 rfl w.heap.size 36 i0 _ 7 56 Try.underlying29 hi0 hx0 hx1 hx2 rfl (by decide) _ 0 [] rfl (World.ownsRow_nil _ _ _ _) B A n c (entCells l) rfl hL hh hn h6 (by unfold maxLen; omega) (by omega) (Nat.le_refl _) ?_)
  intro v w1 ho hg _
  go_wp2
  go_ret
  exact ⟨v, rfl, by simpa using ho, (Below.refl _ _).grown hg (Nat.le_refl _) (fun k hk => by cases hk)⟩
set_option maxHeartbeats 400000 in
theorem ents_clone {n B c : Nat} {A : Option Addr} {zs : List En} {w : World} (h1 : Has w B A (entCells zs)) (hn : zs.length = n) (hm : n ≤ 1000000) (hc : A = none → c = 0) :
    Calls Try.prog 33 #[.slice A n c] w fun e w' => ∃ v, e = .returned v ∧ w'.ownsRow w.heap.size 36 7 v n (entCells zs) ∧ Below w.heap.size w w' := by
  obtain ⟨i0, hi0, hx0, hx1, hx2⟩ := info_parts info_ent
  have hL : (entCells zs).length = n * 7 := by rw [entCells_len, hn]
  have h6 := entCells_one zs
  cases A with
  | none =>
    obtain rfl := hc rfl
    have hz : n = 0 := by
      rcases Nat.eq_zero_or_pos n with h | h
      · exact h
      · have h2 : 0 < (entCells zs).length := by rw [hL]; omega
        obtain ⟨_, e, _⟩ := h1 0 _ (List.getElem?_eq_getElem h2)
        cases e
    subst hz
    have hz0 : zs = [] := List.length_eq_zero_iff.1 hn
    subst hz0
    have hq := fun (w : World) => Lib.run_eql_slice_nil w 29 36 none 0 0 0 0 Try.underlying29
    clear h1 hL h6 hc hm
    go_enter Try.func33, Try.ntmps33
    go_wp2
    go_ret
    exact ⟨_, rfl, World.ownsRow_nil _ _ _ _, Below.refl _ _⟩
  | some ad =>
    have hq := fun (w : World) => Lib.run_eql_slice_nil w 29 36 (some ad) n c 0 0 Try.underlying29
    have hh := h1.tight.below ((Below.refl _ _).alloc (Nat.le_refl _) (.cells #[] 36)) (Nat.le_refl _)
    have ho := World.ownsRow_made (e := 36) (size := 7) w #[] 0 (Nat.le_refl _) (by unfold maxLen; omega) (by simp)
    have HB := Lib.hid (show Below w.heap.size w (w.alloc (.cells #[] 36)) from (Below.refl _ _).alloc (Nat.le_refl _) _)
    have HO := Lib.hid ho
    have HH := Lib.hid hh
    have H6 := Lib.hid h6
    have HLn := Lib.hid hL
    have hm1 := Lib.hid (show 0 + n ≤ maxLen by unfold maxLen; omega)
    have hm2 := Lib.hid (show (0 + n) * 56 ≤ 140737488355328 by omega)
    clear ho hh h6 hL h1 hc
    go_enter Try.func33, Try.ntmps33
    go_wp2_with (at_builtin; refine wpList_apps rfl _ _ 29 rfl w.heap.size 36 i0 _ 7 56 Try.underlying29 hi0 hx0 hx1 hx2 rfl (by decide) _ 0 [] rfl HO.out _ (some ad) n c (entCells zs) rfl HLn.out HH.out (fun e => by cases e) H6.out hm1.out hm2.out HB.out.size ?_)
    intro v w1 ho hg _
    have HR := Lib.hid ho
    have HG := Lib.hid (HB.out.grown hg HB.out.size (fun k hk => by cases hk; exact Nat.le_refl _))
    clear ho hg
    go_wp2
    go_ret
    refine ⟨v, rfl, ?_, HG.out⟩
    have := HR.out
    simpa using this
end Go.Proofs.Ytpjcedilkahpiaa
