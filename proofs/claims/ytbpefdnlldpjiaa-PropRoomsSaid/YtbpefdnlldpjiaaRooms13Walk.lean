/- The walk of PropRooms: it returns true for any int, requests and operation. -/
import Derived.Test.YtbpefdnlldpjiaaPropClone
import Derived.Test.YtbpefdnlldpjiaaOpens
namespace Go.Proofs.Ytbpefdnlldpjiaa
open Go.RowKit Go.Sort
set_option linter.unusedSimpArgs false

theorem put_mem {f n : Int} {L : List Tr} {r : Rq} {nd ck : Int} (hs : Ris (rqs L)) {p : Rq → Prop} (h : ∀ x ∈ L, p x.rq) (hr : p r) : ∀ x ∈ (putT f n L r nd ck).2, p x.rq := by
  unfold putT
  split
  · split
    · exact h
    · intro x hx
      rcases (mem_upd hs _ x).1 hx with rfl | ⟨hx, _⟩
      · rw [mark_rq, rowOf_rq]; exact hr
      · exact h x hx
  · exact h
theorem pend_none {L : List Tr} {c : Int} (h : ∀ x ∈ L, x.rq.cl ≠ c) : pend L c = 0 := by
  unfold pend
  rw [List.countP_eq_zero]
  intro x hx
  simpa using h x hx
theorem rooms_len {f : Int} {L : List Tr} (hf : Fine f 3 L) (h : ∀ x ∈ L, x.rq.cl < 2) : L.length ≤ 8 := by
  have h1 := pend_all L fun x hx => ⟨(hf.cl x hx).1, by have := (hf.cl x hx).2; omega⟩
  have h2 : pend L 2 = 0 := pend_none fun x hx => by have := h x hx; omega
  have h3 : pend L 3 = 0 := pend_none fun x hx => by have := h x hx; omega
  have := hf.four 0
  have := hf.four 1
  omega
/-- Client 2 has so many rows, of the times up to that. -/
structure Rm (L : List Tr) (j : Nat) : Prop where
  num : pend L 2 = j
  tms : ∀ x ∈ L, x.rq.cl = 2 → x.rq.tm ≤ j
theorem Rm.start {L : List Tr} (h : ∀ x ∈ L, x.rq.cl < 2) : Rm L 0 := ⟨pend_none fun x hx => by have := h x hx; omega, fun x hx e => by have := h x hx; omega⟩
theorem Rm.put {f : Int} {L : List Tr} {j : Nat} (h : Rm L j) (hf : Fine f 3 L) (hj : j < 4) {r : Rq} (h1 : r.cl = 2) (h2 : r.tm = (j : Int) + 1) : ∃ L', putT f 3 L r 0 0 = ((true, (mark f (rowOf L r) 0 0).2, 0), L') ∧ Rm L' (j + 1) := by
  have hh : had L r = false := had_no.2 fun x hx e => by
    have := h.tms x hx (by rw [e, h1])
    rw [e, h2] at this
    omega
  have hq : (mark f (rowOf L r) 0 0).1.rq = r := by rw [mark_rq, rowOf_rq]
  refine ⟨upd L (mark f (rowOf L r) 0 0).1, ?_, ?_, ?_⟩
  · unfold putT
    have := hf.f1
    rw [if_pos (by omega), if_neg (by rw [h1, h.num]; omega), hh]
    rfl
  · rw [pend_upd hf.ris, hq, hh, h1, h.num, if_pos ⟨rfl, rfl⟩]
  · intro x hx e
    rcases (mem_upd hf.ris _ x).1 hx with rfl | ⟨hx, _⟩
    · rw [hq, h2]; omega
    · have := h.tms x hx e; omega
theorem Rm.full {f : Int} {L : List Tr} (h : Rm L 4) (hf : Fine f 3 L) {r : Rq} (h1 : r.cl = 2) (h2 : r.tm = 5) : putT f 3 L r 0 0 = ((false, false, 3), L) := by
  have hh : had L r = false := had_no.2 fun x hx e => by
    have := h.tms x hx (by rw [e, h1])
    rw [e, h2] at this
    omega
  unfold putT
  have := hf.f1
  rw [if_pos (by omega), if_pos ⟨hh, by rw [h1, h.num]⟩]
theorem Rm.gone {L : List Tr} (h : Rm L 4) : (L.length : Int) - ((dropT L 2 4).length : Int) = 4 := by
  have h1 : (dropT L 2 4).length = L.countP fun x => !(decide (x.rq.cl = 2) && decide (x.rq.tm ≤ 4)) := by
    unfold dropT
    rw [List.countP_eq_length_filter]
  have h2 : (L.countP fun x => decide (x.rq.cl = 2) && decide (x.rq.tm ≤ 4)) = 4 := by
    rw [← h.num]
    unfold pend
    refine List.countP_congr fun x hx => ?_
    have := h.tms x hx
    simp
    omega
  have h3 := List.length_eq_countP_add_countP (fun x : Tr => decide (x.rq.cl = 2) && decide (x.rq.tm ≤ 4)) (l := L)
  have h4 : (L.countP fun x => decide ¬((decide (x.rq.cl = 2) && decide (x.rq.tm ≤ 4)) = true)) = L.countP fun x => !(decide (x.rq.cl = 2) && decide (x.rq.tm ≤ 4)) := List.countP_congr fun x _ => by simp
  omega
set_option maxRecDepth 100000 in
set_option maxHeartbeats 4000000 in
theorem propRooms_walk (a0 : Int) (A : Option Addr) (c : Nat) (l : List Rq) (ok oy ov : Int) (w : World) (w0 : (Lit.int .i64 a0).wf = true) (w1 : IsReqs w A l c) (_ : fit ok) (_ : fit oy) (_ : fit ov) :
    Calls Try.prog 6 #[.int .i64 a0, .slice A l.length c, .agg #[.int .i64 ok, .int .i64 oy, .int .i64 ov]] w fun e w' => e = .returned (.bool true) ∧ Below w.heap.size w w' := by
  obtain ⟨b0, b1⟩ := wf_i64 w0
  have HW4 := Lib.hid (fun w => within_any a0 4 (by omega) (by omega) b0 b1 w)
  have hf1 : 0 ≤ a0 % 4 ∧ a0 % 4 < 4 := ⟨Int.emod_nonneg _ (by omega), Int.emod_lt_of_pos _ (by omega)⟩
  obtain ⟨q, hq⟩ : ∃ q : Int, a0 % 4 = q := ⟨_, rfl⟩
  rw [hq] at HW4 hf1
  obtain ⟨f, hf⟩ : ∃ f : Int, 1 + q = f := ⟨_, rfl⟩
  have hF1 : 1 ≤ f ∧ f ≤ 4 := by omega
  have HL := Lib.hid w1
  obtain ⟨n, hn⟩ : ∃ n, l.length = n := ⟨_, rfl⟩
  have HN := Lib.hid hn
  simp only [hn]
  clear w0 w1 b0 b1 hq hf1 hn
  go_enter Try.func6, Try.ntmps6
  go_wp2_with fail
  refine (HW4.out _).mono ?_
  rintro e wa ⟨rfl, rfl⟩
  go_wp2_with fail
  have HB1 := Lib.hid (show Below w.heap.size w (w.alloc (.cells #[.int .i64 ok, .int .i64 oy, .int .i64 ov] 23)) from (Below.refl _ _).alloc (Nat.le_refl _) _)
  refine (rt_new (f := f) (n := 3) hF1.1 hF1.2 (by omega) (by omega) w _ HB1.out).mono ?_
  rintro e w2 ⟨tb, rfl, hR, hbN, -⟩
  have HBox := Lib.hid ((Blk.new w 23 #[.int .i64 ok, .int .i64 oy, .int .i64 ov]).below hbN (by simp))
  have HR := Lib.hid hR
  clear hR hbN HB1 hf
  go_wp2_with fail
  go_loopw [9] (fun xi wr => ∃ (i : Nat) (v : Value) (L : List Tr), xi = .int .i64 i ∧ i ≤ n ∧ i ≤ 60 ∧ Hid (Rt w tb v f 3 L wr) ∧ Hid (Blk wr w.heap.size 23 #[.int .i64 ok, .int .i64 oy, .int .i64 ov]) ∧ Hid (∀ x ∈ L, x.rq.cl < 2)) (fun xi _ => n - (intOf xi).toNat)
  case atStart => exact ⟨0, _, [], rfl, Nat.zero_le _, Nat.zero_le _, HR, HBox, (fun x hx => by cases hx)⟩
  case round =>
    obtain ⟨i, v, L, rfl, hi, hi60, HS, HX, HP⟩ := hrel
    by_cases hlt : i < n ∧ i < 60
    · obtain ⟨hlt1, hlt2⟩ := hlt
      have hil : i < l.length := by rw [HN.out]; exact hlt1
      obtain ⟨ad, rfl, hab, c0, c1, c2, c3, c4, c5⟩ := (HS.out.has HL.out.has).req hil
      have hft := HL.out.fits _ (List.getElem_mem hil)
      obtain ⟨r0, hr0⟩ : ∃ r, l[i] = r := ⟨_, rfl⟩
      rw [hr0] at c0 c1 c2 c3 c4 c5 hft
      obtain ⟨b2, b3⟩ := wf_i64 hft.cl
      have HW2 := Lib.hid (fun w => within_any r0.cl 2 (by omega) (by omega) b2 b3 w)
      have hc1 : 0 ≤ r0.cl % 2 ∧ r0.cl % 2 < 2 := ⟨Int.emod_nonneg _ (by omega), Int.emod_lt_of_pos _ (by omega)⟩
      obtain ⟨p, hp⟩ : ∃ p : Int, r0.cl % 2 = p := ⟨_, rfl⟩
      rw [hp] at HW2 hc1
      have hlt3 : (i : Int) < (n : Int) := by omega
      have hlt4 : (i : Int) < 60 := by omega
      have HC := Lib.hid hc1
      clear hil hft hr0 b2 b3 hp hc1 hab
      go_wp2_with fail
      refine (HW2.out _).mono ?_
      rintro e w3 ⟨rfl, rfl⟩
      go_wp2_with fail
      have HSa := Lib.hid (HS.out.below (wz := wr.alloc (.cells #[.int .i64 p, .int .i64 r0.tm, .int .i64 r0.kd, .int .i64 r0.ky, .int .i64 r0.vl, .int .i64 r0.sg] 25)) ((Below.refl _ _).alloc (Nat.le_refl _) _))
      have HXa := Lib.hid (HX.out.alloc (.cells #[.int .i64 p, .int .i64 r0.tm, .int .i64 r0.kd, .int .i64 r0.ky, .int .i64 r0.vl, .int .i64 r0.sg] 25))
      refine (pput_any HSa.out.tab ⟨p, r0.tm, r0.kd, r0.ky, r0.vl, r0.sg⟩ _ _).mono ?_
      rintro e w4 ⟨rfl, hp⟩
      have HX4 := Lib.hid (hp.far HSa.out.tab HXa.out (by decide) (by decide))
      obtain ⟨v4, h4⟩ := HSa.out.post hp
      have HS4 := Lib.hid h4
      have HP4 := Lib.hid (fun (nd ck : Int) => put_mem (f := f) (n := 3) (r := ⟨p, r0.tm, r0.kd, r0.ky, r0.vl, r0.sg⟩) (nd := nd) (ck := ck) HS.out.tab.ok.ris (p := fun r => r.cl < 2) HP.out HC.out.2)
      clear hp h4 c0 c1 c2 c3 c4 c5
      go_wp2_with fail
      go_roundw
      case rel => exact ⟨i + 1, v4, _, by go_num, by omega, by omega, HS4, HX4, HP4.out _ _⟩
      case measure => simp [intOf]; omega
    · have HLn := Lib.hid (plen_any HS.out.tab)
      have h8 := rooms_len HS.out.tab.ok HP.out
      have HR0 := Lib.hid (Rm.start HP.out)
      obtain ⟨m, hm⟩ : ∃ m, L.length = m := ⟨_, rfl⟩
      rw [hm] at HLn h8
      have g8 : decide ((8 : Int) < (m : Int)) = false := decide_eq_false (by omega)
      clear hm
      by_cases h1 : i < n
      · have h2 : i = 60 := by omega
        subst h2
        go_wp2_with fail
        refine HLn.out.mono ?_
        rintro e w5 ⟨rfl, rfl⟩
        go_wp2_with fail
        go_loopw [11] (fun xi wr => ∃ (j : Nat) (v : Value) (L : List Tr), xi = .int .i64 ((j : Int) + 1) ∧ j ≤ 5 ∧ Hid (Rt w tb v f 3 L wr) ∧ Hid (Blk wr w.heap.size 23 #[.int .i64 ok, .int .i64 oy, .int .i64 ov]) ∧ Hid (Rm L (min j 4))) (fun xi _ => 6 - (intOf xi).toNat)
        case atStart => exact ⟨0, _, L, by go_num, Nat.zero_le _, HS, HX, HR0⟩
        case round =>
          obtain ⟨j, v, L, rfl, hj, HS, HX, HP⟩ := hrel
          have o0 := HX.out.cell 0
          have o1 := HX.out.cell 1
          have o2 := HX.out.cell 2
          simp only [List.getElem?_toArray, List.getElem?_cons_zero, List.getElem?_cons_succ] at o0 o1 o2
          by_cases hj4 : j < 4
          · obtain ⟨L', hput, hrm⟩ := Rm.put (f := f) (by have := HP.out; rwa [Nat.min_eq_left (by omega)] at this) HS.out.tab.ok hj4 (r := ⟨2, (j : Int) + 1, ok, oy, ov, 0⟩) rfl rfl
            have HPut := Lib.hid (pput_any HS.out.tab ⟨2, (j : Int) + 1, ok, oy, ov, 0⟩ 0 0)
            have HPost := Lib.hid (fun wz (hp : TbPost wr tb v f 3 L' wz) => And.intro (hp.far HS.out.tab HX.out (by decide) (by decide)) (HS.out.post hp))
            rw [hput] at HPut
            have HRm := Lib.hid (show Rm L' (min (j + 1) 4) by rw [Nat.min_eq_left (by omega)]; exact hrm)
            have g1 : decide ((j : Int) + 1 ≤ 5) = true := decide_eq_true (by omega)
            have g2 : decide ((j : Int) + 1 ≤ 4) = true := decide_eq_true (by omega)
            have g3 : decide (4 < (j : Int) + 1) = false := decide_eq_false (by omega)
            clear hput hrm
            go_wp2_with fail
            refine HPut.out.mono ?_
            rintro e w6 ⟨rfl, hp⟩
            obtain ⟨hx6, v6, hr6⟩ := HPost.out _ hp
            have HX6 := Lib.hid hx6
            have HS6 := Lib.hid hr6
            clear hp hx6 hr6 o0 o1 o2 HPut HPost
            go_wp2_with fail
            go_roundw
            case rel => exact ⟨j + 1, v6, L', by go_num, by omega, HS6, HX6, HRm⟩
            case measure => simp [intOf]; omega
          · by_cases hj5 : j = 4
            · subst hj5
              have HPut := Lib.hid (pput_any HS.out.tab ⟨2, 5, ok, oy, ov, 0⟩ 0 0)
              have HPost := Lib.hid (fun wz (hp : TbPost wr tb v f 3 L wz) => And.intro (hp.far HS.out.tab HX.out (by decide) (by decide)) (HS.out.post hp))
              rw [Rm.full HP.out HS.out.tab.ok rfl rfl] at HPut
              go_wp2_with fail
              refine HPut.out.mono ?_
              rintro e w6 ⟨rfl, hp⟩
              obtain ⟨hx6, v6, hr6⟩ := HPost.out _ hp
              have HX6 := Lib.hid hx6
              have HS6 := Lib.hid hr6
              clear hp hx6 hr6 o0 o1 o2 HPut HPost
              go_wp2_with fail
              go_roundw
              case rel => exact ⟨5, v6, L, by go_num, by omega, HS6, HX6, HP⟩
              case measure => simp [intOf]
            · obtain rfl : j = 5 := by omega
              have HD := Lib.hid (pdrop_any HS.out.tab 2 4)
              rw [Rm.gone HP.out] at HD
              have HPost := Lib.hid (fun wz (hp : TbPost wr tb v f 3 (dropT L 2 4) wz) => HS.out.post hp)
              go_wp2_with fail
              refine HD.out.mono ?_
              rintro e w6 ⟨rfl, hp⟩
              obtain ⟨v6, hr6⟩ := HPost.out _ hp
              have HS6 := Lib.hid hr6
              clear hp hr6 HD HPost
              go_wp2_with fail
              refine (wakes13_any _).mono ?_
              rintro e w7 ⟨rfl, hb7⟩
              have HS7 := Lib.hid (HS6.out.below hb7)
              clear hb7
              go_wp2_with fail
              go_ret
              exact ⟨rfl, HS7.out.low⟩
      · have h2 : decide ((i : Int) < (n : Int)) = false := decide_eq_false (by omega)
        go_wp2_with fail
        refine HLn.out.mono ?_
        rintro e w5 ⟨rfl, rfl⟩
        go_wp2_with fail
        go_loopw [11] (fun xi wr => ∃ (j : Nat) (v : Value) (L : List Tr), xi = .int .i64 ((j : Int) + 1) ∧ j ≤ 5 ∧ Hid (Rt w tb v f 3 L wr) ∧ Hid (Blk wr w.heap.size 23 #[.int .i64 ok, .int .i64 oy, .int .i64 ov]) ∧ Hid (Rm L (min j 4))) (fun xi _ => 6 - (intOf xi).toNat)
        case atStart => exact ⟨0, _, L, by go_num, Nat.zero_le _, HS, HX, HR0⟩
        case round =>
          obtain ⟨j, v, L, rfl, hj, HS, HX, HP⟩ := hrel
          have o0 := HX.out.cell 0
          have o1 := HX.out.cell 1
          have o2 := HX.out.cell 2
          simp only [List.getElem?_toArray, List.getElem?_cons_zero, List.getElem?_cons_succ] at o0 o1 o2
          by_cases hj4 : j < 4
          · obtain ⟨L', hput, hrm⟩ := Rm.put (f := f) (by have := HP.out; rwa [Nat.min_eq_left (by omega)] at this) HS.out.tab.ok hj4 (r := ⟨2, (j : Int) + 1, ok, oy, ov, 0⟩) rfl rfl
            have HPut := Lib.hid (pput_any HS.out.tab ⟨2, (j : Int) + 1, ok, oy, ov, 0⟩ 0 0)
            have HPost := Lib.hid (fun wz (hp : TbPost wr tb v f 3 L' wz) => And.intro (hp.far HS.out.tab HX.out (by decide) (by decide)) (HS.out.post hp))
            rw [hput] at HPut
            have HRm := Lib.hid (show Rm L' (min (j + 1) 4) by rw [Nat.min_eq_left (by omega)]; exact hrm)
            have g1 : decide ((j : Int) + 1 ≤ 5) = true := decide_eq_true (by omega)
            have g2 : decide ((j : Int) + 1 ≤ 4) = true := decide_eq_true (by omega)
            have g3 : decide (4 < (j : Int) + 1) = false := decide_eq_false (by omega)
            clear hput hrm
            go_wp2_with fail
            refine HPut.out.mono ?_
            rintro e w6 ⟨rfl, hp⟩
            obtain ⟨hx6, v6, hr6⟩ := HPost.out _ hp
            have HX6 := Lib.hid hx6
            have HS6 := Lib.hid hr6
            clear hp hx6 hr6 o0 o1 o2 HPut HPost
            go_wp2_with fail
            go_roundw
            case rel => exact ⟨j + 1, v6, L', by go_num, by omega, HS6, HX6, HRm⟩
            case measure => simp [intOf]; omega
          · by_cases hj5 : j = 4
            · subst hj5
              have HPut := Lib.hid (pput_any HS.out.tab ⟨2, 5, ok, oy, ov, 0⟩ 0 0)
              have HPost := Lib.hid (fun wz (hp : TbPost wr tb v f 3 L wz) => And.intro (hp.far HS.out.tab HX.out (by decide) (by decide)) (HS.out.post hp))
              rw [Rm.full HP.out HS.out.tab.ok rfl rfl] at HPut
              go_wp2_with fail
              refine HPut.out.mono ?_
              rintro e w6 ⟨rfl, hp⟩
              obtain ⟨hx6, v6, hr6⟩ := HPost.out _ hp
              have HX6 := Lib.hid hx6
              have HS6 := Lib.hid hr6
              clear hp hx6 hr6 o0 o1 o2 HPut HPost
              go_wp2_with fail
              go_roundw
              case rel => exact ⟨5, v6, L, by go_num, by omega, HS6, HX6, HP⟩
              case measure => simp [intOf]
            · obtain rfl : j = 5 := by omega
              have HD := Lib.hid (pdrop_any HS.out.tab 2 4)
              rw [Rm.gone HP.out] at HD
              have HPost := Lib.hid (fun wz (hp : TbPost wr tb v f 3 (dropT L 2 4) wz) => HS.out.post hp)
              go_wp2_with fail
              refine HD.out.mono ?_
              rintro e w6 ⟨rfl, hp⟩
              obtain ⟨v6, hr6⟩ := HPost.out _ hp
              have HS6 := Lib.hid hr6
              clear hp hr6 HD HPost
              go_wp2_with fail
              refine (wakes13_any _).mono ?_
              rintro e w7 ⟨rfl, hb7⟩
              have HS7 := Lib.hid (HS6.out.below hb7)
              clear hb7
              go_wp2_with fail
              go_ret
              exact ⟨rfl, HS7.out.low⟩
end Go.Proofs.Ytbpefdnlldpjiaa
