/- The contracts of the document's own pen: requests, batches, votes, certificates, parts. -/
import Derived.Test.YtiffmjfbdidgkaaGreatOPen
import Derived.Test.YtiffmjfbdidgkaaGreatOPutCerts
namespace Go.Proofs.YtiffmjfbdidgkaaGreat
open Go.RowKit

theorem listToks_ge {α : Type} {f : α → List Tok} (hf : ∀ x, 1 ≤ (f x).length) (l : List α) : l.length ≤ (listToks f l).length := by
  have h : l.length ≤ (l.flatMap f).length := by
    induction l with
    | nil => simp
    | cons x l ih =>
      have := hf x
      rw [List.flatMap_cons, List.length_append, List.length_cons]
      omega
  simp only [listToks, List.length_cons]
  omega
theorem PenPost.end_ {w w' : World} {B g L : Nat} {st : Option (List Int)} {ts ta tb : List Tok} (hk : Kept B g 5 w w') (hh : PenHas w' B g (L + 6 * ta.length) (penStep st ta)) (hs : penStep st ta = none) (ht : ts = ta ++ tb) : PenPost w B g L st ts (.returned (.tuple #[])) w' := by
  subst ht
  refine ⟨rfl, hk, ?_⟩
  rw [penStep_app, hs, penStep_none]
  rw [hs] at hh
  exact hh.more (by rw [List.length_append]; omega)

set_option maxHeartbeats 2000000 in
set_option maxRecDepth 100000 in
theorem pen_req (r : Rq) (B g L : Nat) (st : Option (List Int)) (w : World) (hw : PenHas w B g L st) (hsz : L + 6 * r.toks.length ≤ 70368744177664) (hB : B ≤ w.heap.size) :
    Calls Tryz.prog 67 #[.pointer (some ⟨g, 0, none⟩), .agg #[.int .i64 r.cl, .int .i64 r.tm, .int .i64 r.kd, .int .i64 r.ky, .int .i64 r.vl, .int .i64 r.sg]] w (PenPost w B g L st r.toks) := by
  have hgw := hw.lt
  have HP0 := Lib.hid (hw.alloc (.cells #[.int .i64 r.cl, .int .i64 r.tm, .int .i64 r.kd, .int .i64 r.ky, .int .i64 r.vl, .int .i64 r.sg] 106))
  have hx0 := Blk.new w 106 #[.int .i64 r.cl, .int .i64 r.tm, .int .i64 r.kd, .int .i64 r.ky, .int .i64 r.vl, .int .i64 r.sg]
  have HX0 := Lib.hid hx0
  have hs : L + 36 ≤ 70368744177664 := hsz
  have HK := Lib.hid ((Kept.refl B g 5 w).alloc (.cells #[.int .i64 r.cl, .int .i64 r.tm, .int .i64 r.kd, .int .i64 r.ky, .int .i64 r.vl, .int .i64 r.sg] 106))
  have hz0 : w.heap.size < (w.alloc (.cells #[.int .i64 r.cl, .int .i64 r.tm, .int .i64 r.kd, .int .i64 r.ky, .int .i64 r.vl, .int .i64 r.sg] 106)).heap.size := by simp
  clear hw hsz hx0
  go_enter Tryz.func67, Tryz.ntmps67
  go_wp2_with fail
  refine (pen_num r.cl B g (L) (st) _ HP0.out (by (try simp only [List.length_cons, List.length_nil]); omega) (by simp; omega)).mono ?_
  rintro e w1 ⟨rfl, hk, hh⟩
  have hz1 : w.heap.size < w1.heap.size := Nat.lt_of_lt_of_le hz0 hk.size
  have HX1 := Lib.hid (hk.blk HX0.out (by decide) (by omega))
  have HP1 := Lib.hid hh
  have HK0 := Lib.hid hk
  clear hk hh
  have ce1 : w1.cell? ⟨w.heap.size, 1, none⟩ = some (.int .i64 r.tm) := HX1.out.cell 1
  go_wp2_with fail
  refine (pen_num r.tm B g (L + 6 * [Tok.num r.cl].length) (penStep (st) [.num r.cl]) _ HP1.out (by (try simp only [List.length_cons, List.length_nil]); omega) (by omega)).mono ?_
  rintro e w2 ⟨rfl, hk, hh⟩
  have hz2 : w.heap.size < w2.heap.size := Nat.lt_of_lt_of_le hz1 hk.size
  have HX2 := Lib.hid (hk.blk HX1.out (by decide) (by omega))
  have HP2 := Lib.hid hh
  have HK1 := Lib.hid hk
  clear hk hh ce1
  have ce2 : w2.cell? ⟨w.heap.size, 2, none⟩ = some (.int .i64 r.kd) := HX2.out.cell 2
  go_wp2_with fail
  refine (pen_num r.kd B g (L + 6 * [Tok.num r.cl].length + 6 * [Tok.num r.tm].length) (penStep (penStep (st) [.num r.cl]) [.num r.tm]) _ HP2.out (by (try simp only [List.length_cons, List.length_nil]); omega) (by omega)).mono ?_
  rintro e w3 ⟨rfl, hk, hh⟩
  have hz3 : w.heap.size < w3.heap.size := Nat.lt_of_lt_of_le hz2 hk.size
  have HX3 := Lib.hid (hk.blk HX2.out (by decide) (by omega))
  have HP3 := Lib.hid hh
  have HK2 := Lib.hid hk
  clear hk hh ce2
  have ce3 : w3.cell? ⟨w.heap.size, 3, none⟩ = some (.int .i64 r.ky) := HX3.out.cell 3
  go_wp2_with fail
  refine (pen_signed r.ky B g (L + 6 * [Tok.num r.cl].length + 6 * [Tok.num r.tm].length + 6 * [Tok.num r.kd].length) (penStep (penStep (penStep (st) [.num r.cl]) [.num r.tm]) [.num r.kd]) _ HP3.out (by (try simp only [List.length_cons, List.length_nil]); omega) (by omega)).mono ?_
  rintro e w4 ⟨rfl, hk, hh⟩
  have hz4 : w.heap.size < w4.heap.size := Nat.lt_of_lt_of_le hz3 hk.size
  have HX4 := Lib.hid (hk.blk HX3.out (by decide) (by omega))
  have HP4 := Lib.hid hh
  have HK3 := Lib.hid hk
  clear hk hh ce3
  have ce4 : w4.cell? ⟨w.heap.size, 4, none⟩ = some (.int .i64 r.vl) := HX4.out.cell 4
  go_wp2_with fail
  refine (pen_signed r.vl B g (L + 6 * [Tok.num r.cl].length + 6 * [Tok.num r.tm].length + 6 * [Tok.num r.kd].length + 6 * [Tok.sgn r.ky].length) (penStep (penStep (penStep (penStep (st) [.num r.cl]) [.num r.tm]) [.num r.kd]) [.sgn r.ky]) _ HP4.out (by (try simp only [List.length_cons, List.length_nil]); omega) (by omega)).mono ?_
  rintro e w5 ⟨rfl, hk, hh⟩
  have hz5 : w.heap.size < w5.heap.size := Nat.lt_of_lt_of_le hz4 hk.size
  have HX5 := Lib.hid (hk.blk HX4.out (by decide) (by omega))
  have HP5 := Lib.hid hh
  have HK4 := Lib.hid hk
  clear hk hh ce4
  have ce5 : w5.cell? ⟨w.heap.size, 5, none⟩ = some (.int .i64 r.sg) := HX5.out.cell 5
  go_wp2_with fail
  refine (pen_num r.sg B g (L + 6 * [Tok.num r.cl].length + 6 * [Tok.num r.tm].length + 6 * [Tok.num r.kd].length + 6 * [Tok.sgn r.ky].length + 6 * [Tok.sgn r.vl].length) (penStep (penStep (penStep (penStep (penStep (st) [.num r.cl]) [.num r.tm]) [.num r.kd]) [.sgn r.ky]) [.sgn r.vl]) _ HP5.out (by (try simp only [List.length_cons, List.length_nil]); omega) (by omega)).mono ?_
  rintro e w6 ⟨rfl, hk, hh⟩
  have hz6 : w.heap.size < w6.heap.size := Nat.lt_of_lt_of_le hz5 hk.size
  have HX6 := Lib.hid (hk.blk HX5.out (by decide) (by omega))
  have HP6 := Lib.hid hh
  have HK5 := Lib.hid hk
  clear hk hh ce5
  have HR : Hid (PenPost w B g L st ([Tok.num r.cl] ++ ([Tok.num r.tm] ++ ([Tok.num r.kd] ++ ([Tok.sgn r.ky] ++ ([Tok.sgn r.vl] ++ [Tok.num r.sg]))))) (.returned (.tuple #[])) w6) := PenPost.from (PenPost.app HK0.out (PenPost.app HK1.out (PenPost.app HK2.out (PenPost.app HK3.out (PenPost.app HK4.out (⟨rfl, HK5.out, HP6.out⟩)))))) HK.out
  go_wp2_with fail
  go_end0
  exact HR.out

/-- What holds at the loop's head: so many things have been written, or it is bad. -/
def PenBatchRel (l : List Rq) (w : World) (B g L : Nat) (st : Option (List Int)) (x : Value) (wr : World) : Prop :=
  ∃ k : Nat, x = .int .i64 k ∧ k ≤ l.length ∧ Kept B g 5 w wr ∧ PenHas wr B g (L + 6 * (Tok.len l.length :: (l.take k).flatMap Rq.toks).length) (penStep st (.len l.length :: (l.take k).flatMap Rq.toks))
set_option maxHeartbeats 2000000 in
set_option maxRecDepth 100000 in
theorem pen_batch (l : List Rq) (A : Option Addr) (c B g L : Nat) (st : Option (List Int)) (w : World) (hw : PenHas w B g L st) (hh : Has w B A (reqCells l)) (hsz : L + 6 * (listToks Rq.toks l).length ≤ 70368744177664) (hB : B ≤ w.heap.size) :
    Calls Tryz.prog 40 #[.pointer (some ⟨g, 0, none⟩), .slice A l.length c] w (PenPost w B g L st (listToks Rq.toks l)) := by
  have hBg := hw.le
  have HP0 := Lib.hid hw
  have HH := Lib.hid hh
  have HS := Lib.hid hsz
  have hln : l.length ≤ 70368744177664 := by have := listToks_ge (f := Rq.toks) (fun x => by simp [Rq.toks]) l; omega
  have hs1 : L + 6 ≤ 70368744177664 := by simp [listToks] at hsz; omega
  clear hw hh hsz
  go_enter Tryz.func40, Tryz.ntmps40
  go_wp2_with fail
  refine (pen_list l.length B g L st _ HP0.out hs1 hB).mono ?_
  rintro e w1 ⟨rfl, hk, hh⟩
  have HR0 : Hid (PenBatchRel l w B g L st (.int .i64 0) w1) := ⟨0, rfl, Nat.zero_le _, hk, by simpa using hh⟩
  clear hk hh
  go_wp2_with fail
  go_loopw [4] (fun x wr => PenBatchRel l w B g L st x wr) (fun x _ => l.length - (intOf x).toNat)
  case atStart => exact HR0.out
  case round =>
    obtain ⟨k, rfl, hk, hkp, hpen⟩ := hrel
    have hbs := hkp.size
    have HKp := Lib.hid hkp
    have HPn := Lib.hid hpen
    clear hkp
    cases hst : penStep st (.len l.length :: (l.take k).flatMap Rq.toks) with
    | none =>
      have HST := Lib.hid hst
      obtain ⟨bs, bad, ⟨_, A2, c2, hb, _⟩, _, hs⟩ := hpen
      have hbad : bad = true := by
        rcases hs with ⟨h1, _⟩ | ⟨_, h2⟩
        · rw [hst] at h1; cases h1
        · exact h2
      subst hbad
      have ce : wr.cell? ⟨g, 1, none⟩ = some (.bool true) := hb.cell 1
      have HE := Lib.hid (PenPost.end_ (ts := listToks Rq.toks l) (tb := (l.drop k).flatMap Rq.toks) HKp.out HPn.out HST.out (by rw [List.cons_append, ← List.flatMap_append, List.take_append_drop]; rfl))
      clear hs hb hst
      by_cases hlt : k < l.length
      all_goals
        go_wp2_with fail
        go_end0
        exact HE.out
    | some b0 =>
      have HST := Lib.hid hst
      obtain ⟨bs, bad, ⟨_, A2, c2, hb, _⟩, _, hs⟩ := hpen
      have hbad : bad = false := by
        rcases hs with ⟨_, h2⟩ | ⟨h1, _⟩
        · exact h2
        · rw [hst] at h1; cases h1
      subst hbad
      have ce : wr.cell? ⟨g, 1, none⟩ = some (.bool false) := hb.cell 1
      clear hs hb hst
      by_cases hlt : k < l.length
      · have HSp := Lib.hid (put_split (f := Rq.toks) hlt)
        have HMo := Lib.hid (put_more (f := Rq.toks) hlt)
        have HSz := Lib.hid (show L + 6 * (Tok.len l.length :: (l.take k).flatMap Rq.toks).length + 6 * (Rq.toks l[k]).length ≤ 70368744177664 by
          have h1 := HS.out
          rw [HSp.out] at h1
          simp only [List.length_append] at h1
          omega)
        obtain ⟨ad, rfl, hab, h0, h1, h2, h3, h4, h5⟩ := (HKp.out.has hBg HH.out).req hlt
        obtain ⟨r, hr⟩ : ∃ r, l[k] = r := ⟨_, rfl⟩
        rw [hr] at h0 h1 h2 h3 h4 h5
        rw [hr] at HSz HMo
        clear hr
        go_wp2_with fail
        refine (pen_req r B g _ _ _ HPn.out HSz.out (by omega)).mono ?_
        rintro e w2 ⟨rfl, hk2, hh2⟩
        have HN : Hid (PenBatchRel l w B g L st (.int .i64 ((k + 1 : Nat) : Int)) w2) := ⟨k + 1, rfl, hlt, HKp.out.trans hk2, by rw [HMo.out, penStep_app, List.length_append]; exact hh2.more (by omega)⟩
        clear hk2 hh2 h0 h1 h2 h3 h4 h5 ce
        go_wp2
        go_roundw
        case rel => exact HN.out
        case measure => simp [intOf]; omega
      · have hke : k = l.length := by omega
        have HE : Hid (PenPost w B g L st (listToks Rq.toks l) (.returned (.tuple #[])) wr) := ⟨rfl, HKp.out, by have h := HPn.out; rw [List.take_of_length_le (by omega)] at h; exact h⟩
        clear hke
        go_wp2_with fail
        go_end0
        exact HE.out

/-- What holds at the loop's head: so many things have been written, or it is bad. -/
def PenVotesRel (l : List Vt) (w : World) (B g L : Nat) (st : Option (List Int)) (x : Value) (wr : World) : Prop :=
  ∃ k : Nat, x = .int .i64 k ∧ k ≤ l.length ∧ Kept B g 5 w wr ∧ PenHas wr B g (L + 6 * (Tok.len l.length :: (l.take k).flatMap Vt.toks).length) (penStep st (.len l.length :: (l.take k).flatMap Vt.toks))
set_option maxHeartbeats 2000000 in
set_option maxRecDepth 100000 in
theorem pen_votes (l : List Vt) (A : Option Addr) (c B g L : Nat) (st : Option (List Int)) (w : World) (hw : PenHas w B g L st) (hh : Has w B A (voteCells l)) (hsz : L + 6 * (listToks Vt.toks l).length ≤ 70368744177664) (hB : B ≤ w.heap.size) :
    Calls Tryz.prog 41 #[.pointer (some ⟨g, 0, none⟩), .slice A l.length c] w (PenPost w B g L st (listToks Vt.toks l)) := by
  have hBg := hw.le
  have HP0 := Lib.hid hw
  have HH := Lib.hid hh
  have HS := Lib.hid hsz
  have hln : l.length ≤ 70368744177664 := by have := listToks_ge (f := Vt.toks) (fun x => by simp [Vt.toks]) l; omega
  have hs1 : L + 6 ≤ 70368744177664 := by simp [listToks] at hsz; omega
  clear hw hh hsz
  go_enter Tryz.func41, Tryz.ntmps41
  go_wp2_with fail
  refine (pen_list l.length B g L st _ HP0.out hs1 hB).mono ?_
  rintro e w1 ⟨rfl, hk, hh⟩
  have HR0 : Hid (PenVotesRel l w B g L st (.int .i64 0) w1) := ⟨0, rfl, Nat.zero_le _, hk, by simpa using hh⟩
  clear hk hh
  go_wp2_with fail
  go_loopw [4] (fun x wr => PenVotesRel l w B g L st x wr) (fun x _ => l.length - (intOf x).toNat)
  case atStart => exact HR0.out
  case round =>
    obtain ⟨k, rfl, hk, hkp, hpen⟩ := hrel
    have hbs := hkp.size
    have HKp := Lib.hid hkp
    have HPn := Lib.hid hpen
    clear hkp
    cases hst : penStep st (.len l.length :: (l.take k).flatMap Vt.toks) with
    | none =>
      have HST := Lib.hid hst
      obtain ⟨bs, bad, ⟨_, A2, c2, hb, _⟩, _, hs⟩ := hpen
      have hbad : bad = true := by
        rcases hs with ⟨h1, _⟩ | ⟨_, h2⟩
        · rw [hst] at h1; cases h1
        · exact h2
      subst hbad
      have ce : wr.cell? ⟨g, 1, none⟩ = some (.bool true) := hb.cell 1
      have HE := Lib.hid (PenPost.end_ (ts := listToks Vt.toks l) (tb := (l.drop k).flatMap Vt.toks) HKp.out HPn.out HST.out (by rw [List.cons_append, ← List.flatMap_append, List.take_append_drop]; rfl))
      clear hs hb hst
      by_cases hlt : k < l.length
      all_goals
        go_wp2_with fail
        go_end0
        exact HE.out
    | some b0 =>
      have HST := Lib.hid hst
      obtain ⟨bs, bad, ⟨_, A2, c2, hb, _⟩, _, hs⟩ := hpen
      have hbad : bad = false := by
        rcases hs with ⟨_, h2⟩ | ⟨h1, _⟩
        · exact h2
        · rw [hst] at h1; cases h1
      subst hbad
      have ce : wr.cell? ⟨g, 1, none⟩ = some (.bool false) := hb.cell 1
      clear hs hb hst
      by_cases hlt : k < l.length
      · have HSp := Lib.hid (put_split (f := Vt.toks) hlt)
        have HMo := Lib.hid (put_more (f := Vt.toks) hlt)
        have HSz := Lib.hid (show L + 6 * (Tok.len l.length :: (l.take k).flatMap Vt.toks).length + 6 * (Vt.toks l[k]).length ≤ 70368744177664 by
          have h1 := HS.out
          rw [HSp.out] at h1
          simp only [List.length_append] at h1
          omega)
        obtain ⟨ad, rfl, hab, h0, h1⟩ := (HKp.out.has hBg HH.out).vote hlt
        obtain ⟨r, hr⟩ : ∃ r, l[k] = r := ⟨_, rfl⟩
        rw [hr] at h0 h1
        rw [hr] at HSz HMo
        have hsz2 : L + 6 * (Tok.len l.length :: (l.take k).flatMap Vt.toks).length + 12 ≤ 70368744177664 := HSz.out
        have HRr := Lib.hid hr
        clear hr
        go_wp2_with fail
        refine (pen_num r.nd B g _ _ _ HPn.out (by omega) (by omega)).mono ?_
        rintro e w2 ⟨rfl, hk2, hh2⟩
        have HD := Lib.hid (hk2.has hBg ((HKp.out.has hBg HH.out)))
        have hbs2 := hk2.size
        have q1 : w2.cell? ⟨(ad.add (k * 2)).block, (ad.add (k * 2)).off + 1, none⟩ = some (.int .i64 r.sg) := by
          obtain ⟨ad', he, _, _, h⟩ := HD.out.vote hlt
          cases he
          rw [h, HRr.out]
        have HK2 := Lib.hid hk2
        have HH2 := Lib.hid hh2
        clear hk2 hh2
        go_wp2_with fail
        refine (pen_num r.sg B g _ _ _ HH2.out (by simp only [List.length_cons, List.length_nil] at *; omega) (by omega)).mono ?_
        rintro e w3 ⟨rfl, hk3, hh3⟩
        have HN : Hid (PenVotesRel l w B g L st (.int .i64 ((k + 1 : Nat) : Int)) w3) := ⟨k + 1, rfl, hlt, (HKp.out.trans HK2.out).trans hk3, by rw [HMo.out, show r.toks = [.num r.nd] ++ [.num r.sg] from rfl, penStep_app, penStep_app, List.length_append]; exact hh3.more (by simp; omega)⟩
        clear hk3 hh3 h0 h1 q1 ce
        go_wp2
        go_roundw
        case rel => exact HN.out
        case measure => simp [intOf]; omega
      · have hke : k = l.length := by omega
        have HE : Hid (PenPost w B g L st (listToks Vt.toks l) (.returned (.tuple #[])) wr) := ⟨rfl, HKp.out, by have h := HPn.out; rw [List.take_of_length_le (by omega)] at h; exact h⟩
        clear hke
        go_wp2_with fail
        go_end0
        exact HE.out

end Go.Proofs.YtiffmjfbdidgkaaGreat
