/- The law's own Right: a ledger is what the document says. -/
import Derived.Test.YtpjcedilkahpiaaRefLed
import Derived.Test.YtpjcedilkahpiaaLedAll
import Derived.Test.YtpjcedilkahpiaaStoreAll
import Derived.Test.YtpjcedilkahpiaaSamePairs
namespace Go.Proofs.Ytpjcedilkahpiaa
open Go.RowKit
set_option linter.unusedSimpArgs false

/-- A row of all keys and values. -/
structure AllAt (w : World) (A : Option Addr) (V : Kv) (m : Nat) : Prop where
  has : Has w w.heap.size A (pairCells V.all)
  len : V.all.length = m
theorem AllAt.below {w w' : World} {A : Option Addr} {V : Kv} {m : Nat} (h : AllAt w A V m) (hb : Below w.heap.size w w') : AllAt w' A V m := ⟨(h.has.below hb (Nat.le_refl _)).tight, h.len⟩
theorem sall2_any {w : World} {sb bm N : Nat} {V : Kv} {m : Nat} (h : St w sb bm N V) (hm : V.all.length = m) :
    Calls Try.prog 47 #[.pointer (some ⟨sb, 0, none⟩)] w fun e w' => ∃ A c, e = .returned (.slice A m c) ∧ AllAt w' A V m ∧ Below w.heap.size w w' :=
  (sall_any h).mono fun e w' ⟨v, he, ho, hb⟩ => by
    rw [hm] at ho
    obtain ⟨A, c, rfl, -, -⟩ := own_slice ho
    exact ⟨A, c, he, ⟨has_rows ho, hm⟩, hb⟩
theorem dall2_any {w : World} {rb : Nat} {n : Int} {Z : Array Value} {V : Kv} {m : Nat} (h : Rd n Z w rb V) (hm : V.all.length = m) :
    Calls Try.prog 48 #[.pointer (some ⟨rb, 1, none⟩)] w fun e w' => ∃ A c, e = .returned (.slice A m c) ∧ AllAt w' A V m ∧ Below w.heap.size w w' :=
  (dall_any h).mono fun e w' ⟨v, he, ho, hb⟩ => by
    rw [hm] at ho
    obtain ⟨A, c, rfl, -, -⟩ := own_slice ho
    exact ⟨A, c, he, ⟨has_rows ho, hm⟩, hb⟩
theorem same2_any {w : World} {A A' : Option Addr} {c c' m : Nat} {V : Kv} (h1 : AllAt w A V m) (h2 : AllAt w A' V m) :
    Calls Try.prog 46 #[.slice A m c, .slice A' m c'] w fun e w' => e = .returned (.bool true) ∧ ∃ nq, w' = w.drewN nq := by
  have hl := V.upTo_len 64
  have := same_pairs A A' c c' V.all w.heap.size w (by unfold Kv.all; omega) h1.has h2.has
  rw [h1.len] at this
  exact this
theorem getS_at0 (L : List (Int × Int)) (c : Int) : getS L c 0 = (0, false) := by unfold getS; rw [if_neg (fun e => by omega)]
theorem getS_at {L : List (Int × Int)} {c : Int} (h : 0 < (atL L c).1) : getS L c (atL L c).1 = ((atL L c).2, true) := by unfold getS; rw [if_pos ⟨h, rfl⟩]
set_option maxRecDepth 100000 in
set_option maxHeartbeats 4000000 in
theorem right12_any {w : World} {b : Lb} {r : Rb} {s : Sc} {E : List En} (hl : Lg w b s E) (hr : Rl w r s E) (hN : b.N ≤ 100000) (hlate : Late s.2) :
    Calls Try.prog 29 #[.pointer (some ⟨b.lb, 0, none⟩), .pointer (some ⟨r.rb, 0, none⟩)] w fun e w' => e = .returned (.bool true) ∧ Below w.heap.size w w' := by
  have HL := Lib.hid hl
  have HR := Lib.hid hr
  have HLt := Lib.hid hlate
  have KA := Lib.hid (lall_any (hl.drewN 1) (by omega))
  have hE : E.length ≤ 100000 := Nat.le_trans hl.few hN
  have c1 : w.drew.cell? ⟨r.rb, 137, none⟩ = some (.slice r.A E.length r.c) := hr.log 1
  obtain ⟨ee, hee⟩ : ∃ e, E.length = e := ⟨_, rfl⟩
  rw [hee] at KA c1 hE
  have HEe := Lib.hid hee
  have KLn := Lib.hid (fun (u : World) (h : Lg u b s E) => llen_any h)
  rw [hee] at KLn
  have HRc := Lib.hid (fun (u : World) (h : Below w.drew.heap.size w.drew u) => (show u.cell? ⟨r.rb, 137, none⟩ = some (.slice r.A ee r.c) from (World.cell?_of_block (a := ⟨r.rb, 137, none⟩) (h.block _ hr.blk.lt)).trans c1))
  have HRh := Lib.hid hr.has
  have KSm := Lib.hid (fun (u : World) (A2 : Option Addr) (e2 : Nat) (h1 : Has u u.heap.size A2 (entCells E)) (h2 : Has u u.heap.size r.A (entCells E)) => show Calls Try.prog 27 #[.slice A2 ee e2, .slice r.A ee r.c] u (fun e w' => e = .returned (.bool true) ∧ ∃ nq, w' = u.drewN nq) from by
    have := same_ents A2 r.A e2 r.c E E u.heap.size u (by rw [hee]; omega) h1 h2
    rw [hee, show sameL E E = true by simp [sameL]] at this
    exact this)
  clear hl hr hlate hN hee
  go_enter Try.func29, Try.ntmps29
  go_wp2_with fail
  have hq1 : w.drew.cell? ⟨r.rb, 137, none⟩ = some (.slice r.A ee r.c) := c1
  clear c1
  go_region_held3 (fun w' => w'.cell? ⟨r.rb, 137, none⟩ = some (.slice r.A ee r.c)) (first | exact hq1 | exact hq2 | exact hq3 | go_keep) ((first
    | (go_at_call 15; refine KA.out.mono ?_; rintro e w2 ⟨v, rfl, ho2, hb2⟩; obtain ⟨A2, e2, rfl, -, -⟩ := own_slice ho2; have hq2 := HRc.out w2 hb2)
    | (go_at_call 27; refine (KSm.out w2 A2 e2 (has_rows ho2) ((HRh.out.drewN 1).below hb2 (Nat.le_refl _)).tight).mono ?_; rintro e w3 ⟨rfl, j, rfl⟩; have hq3 : (w2.drewN j).cell? ⟨r.rb, 137, none⟩ = some (.slice r.A ee r.c) := hq2)
    | (go_at_call 44; refine (KLn.out _ (((HL.out.drewN 1).below hb2).drewN j)).mono ?_; rintro e w4 ⟨rfl, rfl⟩)))
  obtain ⟨w3, hw3⟩ : ∃ w3, w2.drewN j = w3 := ⟨_, rfl⟩
  have HL3 := Lib.hid (show Lg w3 b s E from hw3 ▸ ((HL.out.drewN 1).below hb2).drewN j)
  have HR3 := Lib.hid (show Rl w3 r s E from hw3 ▸ ((HR.out.drewN 1).below hb2).drewN j)
  have HB3 := Lib.hid (show Below w.heap.size w w3 from hw3 ▸ below_drewN ((below_drewN (Below.refl w.heap.size w) 1).trans hb2) j)
  rw [hw3]
  clear hw3 hb2 ho2 hq1 hq2 hq3 HRc HRh KSm KA KLn HL HR
  have KL := Lib.hid (fun k => llast_any HL3.out k)
  have KR := Lib.hid (fun k t => lreply_any HL3.out k t)
  have n0 : w3.cell? ⟨r.rb, 0, none⟩ = some (.int .i64 s.2.length) := HR3.out.cell 0
  obtain ⟨n, hn⟩ : ∃ n, s.2.length = n := ⟨_, rfl⟩
  rw [hn] at n0
  have HN := Lib.hid hn
  have hn4 : n ≤ 4 := hn ▸ HR3.out.n4
  clear hn
  go_wp2_with fail
  go_loopw [5] (fun x wr => ∃ i : Nat, x = .int .i64 ((i : Int) - 1) ∧ i ≤ 6 ∧ wr = w3) (fun x _ => 6 - ((intOf x) + 1).toNat)
  case atStart => exact ⟨0, rfl, by omega, rfl⟩
  case round =>
    obtain ⟨i, rfl, hi, he⟩ := hrel
    obtain rfl : w3 = wr := he.symm
    clear he
    by_cases h0 : i = 0
    · subst h0
      have K1 := Lib.hid (KL.out (((0 : Nat) : Int) - 1))
      have K2 := Lib.hid (KR.out (((0 : Nat) : Int) - 1) 0)
      rw [atL_out (Or.inl (by omega))] at K1
      rw [getS_at0] at K2
      go_wp2_with fail
      refine K1.out.mono ?_
      rintro e w5 ⟨rfl, rfl⟩
      go_wp2_with fail
      refine K2.out.mono ?_
      rintro e w5 ⟨rfl, rfl⟩
      go_wp2_with fail
      go_roundw
      case rel => exact ⟨1, by go_num, by omega, by first | rfl | trivial⟩
      case measure => simp [intOf]
    · by_cases h1 : i ≤ 5
      · obtain ⟨k, rfl⟩ : ∃ k, i = k + 1 := ⟨i - 1, by omega⟩
        have e0 : ((k + 1 : Nat) : Int) - 1 = (k : Int) := by omega
        rw [e0]
        by_cases hk : k < n
        · have hk4 : k < 4 := by omega
          have m1 : w3.cell? ⟨r.rb, 129 + k, none⟩ = _ := HR3.out.time 0 hk4
          have m2 : w3.cell? ⟨r.rb, 133 + k, none⟩ = _ := HR3.out.res 0 hk4
          have hl0 := HLt.out (k : Int)
          have K1 := Lib.hid (KL.out (k : Int))
          have hk3 : (0 : Int) ≤ (k : Int) := by omega
          have hk5 : (k : Int) ≤ 4 := by omega
          have hkn : (k : Int) < (n : Int) := by omega
          by_cases ht : 0 < (atL s.2 (k : Int)).1
          · have K2 := Lib.hid (KR.out (k : Int) (atL s.2 (k : Int)).1)
            rw [getS_at ht] at K2
            obtain ⟨t, htt⟩ : ∃ t, (atL s.2 (k : Int)).1 = t := ⟨_, rfl⟩
            obtain ⟨x, hx⟩ : ∃ t, (atL s.2 (k : Int)).2 = t := ⟨_, rfl⟩
            rw [htt] at m1 K1 K2 ht
            rw [hx] at m2 K2
            have g1 : (t != t) = false := by simp
            have g2 : (x != x) = false := by simp
            have g3 : decide (t > 0) = true := decide_eq_true ht
            clear htt hx hl0 e0 h0 h1
            go_wp2_with fail
            refine K1.out.mono ?_
            rintro e w5 ⟨rfl, rfl⟩
            go_wp2_with fail
            refine K2.out.mono ?_
            rintro e w5 ⟨rfl, rfl⟩
            go_wp2_with fail
            go_roundw
            case rel => exact ⟨k + 2, by go_num, by omega, by first | rfl | trivial⟩
            case measure => simp [intOf]; omega
          · have hz : (atL s.2 (k : Int)).1 = 0 := by omega
            have K2 := Lib.hid (KR.out (k : Int) 0)
            rw [getS_at0] at K2
            rw [hz] at m1 K1
            clear hl0 e0 h0 h1 hz ht
            go_wp2_with fail
            refine K1.out.mono ?_
            rintro e w5 ⟨rfl, rfl⟩
            go_wp2_with fail
            refine K2.out.mono ?_
            rintro e w5 ⟨rfl, rfl⟩
            go_wp2_with fail
            go_roundw
            case rel => exact ⟨k + 2, by go_num, by omega, by first | rfl | trivial⟩
            case measure => simp [intOf]; omega
        · have K1 := Lib.hid (KL.out (k : Int))
          have K2 := Lib.hid (KR.out (k : Int) 0)
          rw [atL_out (Or.inr (by have := HN.out; omega))] at K1
          rw [getS_at0] at K2
          have hk3 : (0 : Int) ≤ (k : Int) := by omega
          have hk5 : (k : Int) ≤ 4 := by omega
          have hkn : ¬ (k : Int) < (n : Int) := by omega
          clear e0 h0 h1
          go_wp2_with fail
          refine K1.out.mono ?_
          rintro e w5 ⟨rfl, rfl⟩
          go_wp2_with fail
          refine K2.out.mono ?_
          rintro e w5 ⟨rfl, rfl⟩
          go_wp2_with fail
          go_roundw
          case rel => exact ⟨k + 2, by go_num, by omega, by first | rfl | trivial⟩
          case measure => simp [intOf]; omega
      · obtain rfl : i = 6 := by omega
        have KS := Lib.hid (lstore_any HL3.out)
        obtain ⟨m, hm⟩ : ∃ m, s.1.all.length = m := ⟨_, rfl⟩
        have HM := Lib.hid hm
        clear hm n0 KL KR
        go_wp2_with fail
        refine KS.out.mono ?_
        rintro e w6 ⟨sb, bm, rfl, hst, -, -, hb6⟩
        have KA := Lib.hid (sall2_any (hst.drewN 1) HM.out)
        have HR6 := Lib.hid (HR3.out.below hb6)
        have HB6 := Lib.hid (HB3.out.trans (hb6.mono HB3.out.size))
        clear hst hb6 KS
        go_wp2_with fail
        go_region_held3 (fun _ => True) (exact trivial) ((first
          | (go_at_call 47; refine KA.out.mono ?_; rintro e w7 ⟨A7, e7, rfl, ha7, hb7⟩)
          | (go_at_call 48; refine (dall2_any (show Rd _ _ w7 r.rb s.1 from ((HR6.out.drewN 1).below hb7).blk) HM.out).mono ?_; rintro e w8 ⟨A8, e8, rfl, ha8, hb8⟩)
          | (go_at_call 46; refine (same2_any (ha7.below hb8) ha8).mono ?_; rintro e w9 ⟨rfl, jj, rfl⟩)))
        have HB9 := Lib.hid (show Below w.heap.size w (w8.drewN jj) from by
          have h1 := below_drewN HB6.out 1
          have h2 := h1.trans (hb7.mono h1.size)
          exact below_drewN (h2.trans (hb8.mono h2.size)) jj)
        clear ha7 ha8 hb7 hb8 KA
        go_wp2_with fail
        go_ret
        exact ⟨rfl, HB9.out⟩
end Go.Proofs.Ytpjcedilkahpiaa
