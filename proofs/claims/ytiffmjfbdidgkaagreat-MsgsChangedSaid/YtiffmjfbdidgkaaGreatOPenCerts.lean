/- The contracts of the document's own pen: certificates, parts; and of Req, Batch, Votes, Certs, Parts over it. -/
import Derived.Test.YtiffmjfbdidgkaaGreatOPenLists
import Derived.Test.YtiffmjfbdidgkaaGreatOS3
namespace Go.Proofs.YtiffmjfbdidgkaaGreat
open Go.RowKit

theorem Kept.cellB {B g : Nat} {t : TypeId} {a b : World} (h : Kept B g t a b) (hg : B ≤ g) {p : Addr} {v : Value} (hc : a.cell? p = some v) (hp : p.block < B) : b.cell? p = some v :=
  (World.cell?_of_block (w := a) (h.block p.block (block_lt hc) (by omega) (fun h2 => by omega))).trans hc

/-- What holds at the loop's head: so many things have been written, or it is bad. -/
def PenCertsRel (l : List Ct) (w : World) (B g L : Nat) (st : Option (List Int)) (x : Value) (wr : World) : Prop :=
  ∃ k : Nat, x = .int .i64 k ∧ k ≤ l.length ∧ Kept B g 5 w wr ∧ PenHas wr B g (L + 6 * (Tok.len l.length :: (l.take k).flatMap Ct.toks).length) (penStep st (.len l.length :: (l.take k).flatMap Ct.toks))
set_option maxHeartbeats 2000000 in
set_option maxRecDepth 100000 in
theorem pen_certs (l : List Ct) (A : Option Addr) (c B g L : Nat) (st : Option (List Int)) (w : World) (hw : PenHas w B g L st) (hh : HasCerts w B A l) (hsz : L + 6 * (listToks Ct.toks l).length ≤ 70368744177664) (hB : B ≤ w.heap.size) :
    Calls Tryz.prog 42 #[.pointer (some ⟨g, 0, none⟩), .slice A l.length c] w (PenPost w B g L st (listToks Ct.toks l)) := by
  have hBg := hw.le
  have HP0 := Lib.hid hw
  have HH := Lib.hid hh
  have HS := Lib.hid hsz
  have hln : l.length ≤ 70368744177664 := by have := listToks_ge (f := Ct.toks) (fun x => by simp [Ct.toks]) l; omega
  have hs1 : L + 6 ≤ 70368744177664 := by simp [listToks] at hsz; omega
  clear hw hh hsz
  go_enter Tryz.func42, Tryz.ntmps42
  go_wp2_with fail
  refine (pen_list l.length B g L st _ HP0.out hs1 hB).mono ?_
  rintro e w1 ⟨rfl, hk, hh⟩
  have HR0 : Hid (PenCertsRel l w B g L st (.int .i64 0) w1) := ⟨0, rfl, Nat.zero_le _, hk, by simpa using hh⟩
  clear hk hh
  go_wp2_with fail
  go_loopw [4] (fun x wr => PenCertsRel l w B g L st x wr) (fun x _ => l.length - (intOf x).toNat)
  case atStart => exact HR0.out
  case round =>
    obtain ⟨k, rfl, hk, hkp, hpen⟩ := hrel
    have hbs := hkp.size
    have HKp := Lib.hid hkp
    have HPn := Lib.hid hpen
    clear hkp
    cases hst : penStep st (.len l.length :: (l.take k).flatMap Ct.toks) with
    | none =>
      have HST := Lib.hid hst
      obtain ⟨bs, bad, ⟨_, A2, c2, hb, _⟩, _, hs⟩ := hpen
      have hbad : bad = true := by
        rcases hs with ⟨h1, _⟩ | ⟨_, h2⟩
        · rw [hst] at h1; cases h1
        · exact h2
      subst hbad
      have ce : wr.cell? ⟨g, 1, none⟩ = some (.bool true) := hb.cell 1
      have HE := Lib.hid (PenPost.end_ (ts := listToks Ct.toks l) (tb := (l.drop k).flatMap Ct.toks) HKp.out HPn.out HST.out (by rw [List.cons_append, ← List.flatMap_append, List.take_append_drop]; rfl))
      clear hs hb hst
      by_cases hlt : k < l.length
      all_goals
        go_wp2_with fail
        go_end0
        exact HE.out
    | some b0 =>
      have HST := Lib.hid hst
      obtain ⟨bs, bad, ⟨_, A2, c2, hb, _⟩, _, hs⟩ := hpen
      have hbad : bad = false := by
        rcases hs with ⟨_, h2⟩ | ⟨h1, _⟩
        · exact h2
        · rw [hst] at h1; cases h1
      subst hbad
      have ce : wr.cell? ⟨g, 1, none⟩ = some (.bool false) := hb.cell 1
      clear hs hb hst
      by_cases hlt : k < l.length
      · have HSp := Lib.hid (put_split (f := Ct.toks) hlt)
        have HMo := Lib.hid (put_more (f := Ct.toks) hlt)
        have HSz := Lib.hid (show L + 6 * (Tok.len l.length :: (l.take k).flatMap Ct.toks).length + 6 * (Ct.toks l[k]).length ≤ 70368744177664 by
          have h1 := HS.out
          rw [HSp.out] at h1
          simp only [List.length_append] at h1
          omega)
        obtain ⟨ad, x, rfl, hab, hr, hin, c0, c1, c2, c3, c4⟩ := (HH.out.reads (Reads.kept HKp.out hBg)).at hlt
        rw [← hr] at HSz HMo
        have HI0 := Lib.hid hin
        clear hr hin
        have hab2 : (ad.add (k * 5)).block < B := by rw [addr_block]; exact hab
        have HS2 := Lib.hid (show L + 6 * (Tok.len l.length :: (l.take k).flatMap Ct.toks).length + 6 * (([Tok.num x.c.vw]).length + ([Tok.num x.c.ins]).length + ([Tok.num x.c.sq]).length + (listToks Rq.toks x.c.bt).length + (listToks Vt.toks x.c.vs).length) ≤ 70368744177664 by have := HSz.out; rw [show (Ct.toks x.c).length = ([Tok.num x.c.vw]).length + ([Tok.num x.c.ins]).length + ([Tok.num x.c.sq]).length + (listToks Rq.toks x.c.bt).length + (listToks Vt.toks x.c.vs).length from by simp [Ct.toks]; omega] at this; exact this)
        have HP0 := Lib.hid HPn.out
        have HQ0 := Lib.hid HKp.out
        go_wp2_with fail
        refine (pen_num x.c.vw B g _ _ _ HP0.out (by have := HS2.out; simp only [List.length_cons, List.length_nil] at *; omega) (by have := HQ0.out.size; omega)).mono ?_
        rintro e z0w ⟨rfl, hk2, hh2⟩
        replace c1 := hk2.cellB hBg c1 hab2
        replace c2 := hk2.cellB hBg c2 hab2
        replace c3 := hk2.cellB hBg c3 hab2
        replace c4 := hk2.cellB hBg c4 hab2
        have HI1 := Lib.hid (HI0.out.reads (Reads.kept hk2 hBg))
        have HQ1 := Lib.hid (HQ0.out.trans hk2)
        have HP1 := Lib.hid hh2
        clear hk2 hh2 c0
        go_wp2_with fail
        refine (pen_num x.c.ins B g _ _ _ HP1.out (by have := HS2.out; simp only [List.length_cons, List.length_nil] at *; omega) (by have := HQ1.out.size; omega)).mono ?_
        rintro e z1w ⟨rfl, hk2, hh2⟩
        replace c2 := hk2.cellB hBg c2 hab2
        replace c3 := hk2.cellB hBg c3 hab2
        replace c4 := hk2.cellB hBg c4 hab2
        have HI2 := Lib.hid (HI1.out.reads (Reads.kept hk2 hBg))
        have HQ2 := Lib.hid (HQ1.out.trans hk2)
        have HP2 := Lib.hid hh2
        clear hk2 hh2 c1
        go_wp2_with fail
        refine (pen_num x.c.sq B g _ _ _ HP2.out (by have := HS2.out; simp only [List.length_cons, List.length_nil] at *; omega) (by have := HQ2.out.size; omega)).mono ?_
        rintro e z2w ⟨rfl, hk2, hh2⟩
        replace c3 := hk2.cellB hBg c3 hab2
        replace c4 := hk2.cellB hBg c4 hab2
        have HI3 := Lib.hid (HI2.out.reads (Reads.kept hk2 hBg))
        have HQ3 := Lib.hid (HQ2.out.trans hk2)
        have HP3 := Lib.hid hh2
        clear hk2 hh2 c2
        go_wp2_with fail
        refine (pen_batch x.c.bt x.A1 x.c1 B g _ _ _ HP3.out HI3.out.bt (by have := HS2.out; simp only [List.length_cons, List.length_nil] at *; omega) (by have := HQ3.out.size; omega)).mono ?_
        rintro e z3w ⟨rfl, hk2, hh2⟩
        replace c4 := hk2.cellB hBg c4 hab2
        have HI4 := Lib.hid (HI3.out.reads (Reads.kept hk2 hBg))
        have HQ4 := Lib.hid (HQ3.out.trans hk2)
        have HP4 := Lib.hid hh2
        clear hk2 hh2 c3
        go_wp2_with fail
        refine (pen_votes x.c.vs x.A2 x.c2 B g _ _ _ HP4.out HI4.out.vs (by have := HS2.out; simp only [List.length_cons, List.length_nil] at *; omega) (by have := HQ4.out.size; omega)).mono ?_
        rintro e z4w ⟨rfl, hk2, hh2⟩
        have HI5 := Lib.hid (HI4.out.reads (Reads.kept hk2 hBg))
        have HQ5 := Lib.hid (HQ4.out.trans hk2)
        have HP5 := Lib.hid hh2
        clear hk2 hh2 c4
        have HN : Hid (PenCertsRel l w B g L st (.int .i64 ((k + 1 : Nat) : Int)) z4w) := ⟨k + 1, rfl, hlt, HQ5.out, by
          have h := HP5.out
          simp only [← penStep_app] at h
          rw [HMo.out, show Ct.toks x.c = [Tok.num x.c.vw] ++ ([Tok.num x.c.ins] ++ ([Tok.num x.c.sq] ++ (listToks Rq.toks x.c.bt ++ (listToks Vt.toks x.c.vs)))) from by simp [Ct.toks], List.length_append]
          simp only [List.append_assoc] at h ⊢
          exact h.more (by simp only [List.length_append]; omega)⟩
        clear ce
        go_wp2
        go_roundw
        case rel => exact HN.out
        case measure => simp [intOf]; omega
      · have hke : k = l.length := by omega
        have HE : Hid (PenPost w B g L st (listToks Ct.toks l) (.returned (.tuple #[])) wr) := ⟨rfl, HKp.out, by have h := HPn.out; rw [List.take_of_length_le (by omega)] at h; exact h⟩
        clear hke
        go_wp2_with fail
        go_end0
        exact HE.out

/-- What holds at the loop's head: so many things have been written, or it is bad. -/
def PenPartsRel (l : List Pt) (w : World) (B g L : Nat) (st : Option (List Int)) (x : Value) (wr : World) : Prop :=
  ∃ k : Nat, x = .int .i64 k ∧ k ≤ l.length ∧ Kept B g 5 w wr ∧ PenHas wr B g (L + 6 * (Tok.len l.length :: (l.take k).flatMap Pt.toks).length) (penStep st (.len l.length :: (l.take k).flatMap Pt.toks))
set_option maxHeartbeats 2000000 in
set_option maxRecDepth 100000 in
theorem pen_parts (l : List Pt) (A : Option Addr) (c B g L : Nat) (st : Option (List Int)) (w : World) (hw : PenHas w B g L st) (hh : HasParts w B A l) (hsz : L + 6 * (listToks Pt.toks l).length ≤ 70368744177664) (hB : B ≤ w.heap.size) :
    Calls Tryz.prog 43 #[.pointer (some ⟨g, 0, none⟩), .slice A l.length c] w (PenPost w B g L st (listToks Pt.toks l)) := by
  have hBg := hw.le
  have HP0 := Lib.hid hw
  have HH := Lib.hid hh
  have HS := Lib.hid hsz
  have hln : l.length ≤ 70368744177664 := by have := listToks_ge (f := Pt.toks) (fun x => by simp [Pt.toks]) l; omega
  have hs1 : L + 6 ≤ 70368744177664 := by simp [listToks] at hsz; omega
  clear hw hh hsz
  go_enter Tryz.func43, Tryz.ntmps43
  go_wp2_with fail
  refine (pen_list l.length B g L st _ HP0.out hs1 hB).mono ?_
  rintro e w1 ⟨rfl, hk, hh⟩
  have HR0 : Hid (PenPartsRel l w B g L st (.int .i64 0) w1) := ⟨0, rfl, Nat.zero_le _, hk, by simpa using hh⟩
  clear hk hh
  go_wp2_with fail
  go_loopw [4] (fun x wr => PenPartsRel l w B g L st x wr) (fun x _ => l.length - (intOf x).toNat)
  case atStart => exact HR0.out
  case round =>
    obtain ⟨k, rfl, hk, hkp, hpen⟩ := hrel
    have hbs := hkp.size
    have HKp := Lib.hid hkp
    have HPn := Lib.hid hpen
    clear hkp
    cases hst : penStep st (.len l.length :: (l.take k).flatMap Pt.toks) with
    | none =>
      have HST := Lib.hid hst
      obtain ⟨bs, bad, ⟨_, A2, c2, hb, _⟩, _, hs⟩ := hpen
      have hbad : bad = true := by
        rcases hs with ⟨h1, _⟩ | ⟨_, h2⟩
        · rw [hst] at h1; cases h1
        · exact h2
      subst hbad
      have ce : wr.cell? ⟨g, 1, none⟩ = some (.bool true) := hb.cell 1
      have HE := Lib.hid (PenPost.end_ (ts := listToks Pt.toks l) (tb := (l.drop k).flatMap Pt.toks) HKp.out HPn.out HST.out (by rw [List.cons_append, ← List.flatMap_append, List.take_append_drop]; rfl))
      clear hs hb hst
      by_cases hlt : k < l.length
      all_goals
        go_wp2_with fail
        go_end0
        exact HE.out
    | some b0 =>
      have HST := Lib.hid hst
      obtain ⟨bs, bad, ⟨_, A2, c2, hb, _⟩, _, hs⟩ := hpen
      have hbad : bad = false := by
        rcases hs with ⟨_, h2⟩ | ⟨h1, _⟩
        · exact h2
        · rw [hst] at h1; cases h1
      subst hbad
      have ce : wr.cell? ⟨g, 1, none⟩ = some (.bool false) := hb.cell 1
      clear hs hb hst
      by_cases hlt : k < l.length
      · have HSp := Lib.hid (put_split (f := Pt.toks) hlt)
        have HMo := Lib.hid (put_more (f := Pt.toks) hlt)
        have HSz := Lib.hid (show L + 6 * (Tok.len l.length :: (l.take k).flatMap Pt.toks).length + 6 * (Pt.toks l[k]).length ≤ 70368744177664 by
          have h1 := HS.out
          rw [HSp.out] at h1
          simp only [List.length_append] at h1
          omega)
        obtain ⟨ad, x, rfl, hab, hr, hin, c0, c1, c2, c3⟩ := (HH.out.reads (Reads.kept HKp.out hBg)).at hlt
        rw [← hr] at HSz HMo
        have HI0 := Lib.hid hin
        clear hr hin
        have hab2 : (ad.add (k * 4)).block < B := by rw [addr_block]; exact hab
        have HS2 := Lib.hid (show L + 6 * (Tok.len l.length :: (l.take k).flatMap Pt.toks).length + 6 * (([Tok.num x.p.fr]).length + (listToks Vt.toks x.p.vs).length + (listToks Ct.toks x.p.cs).length + ([Tok.num x.p.sg]).length) ≤ 70368744177664 by have := HSz.out; rw [show (Pt.toks x.p).length = ([Tok.num x.p.fr]).length + (listToks Vt.toks x.p.vs).length + (listToks Ct.toks x.p.cs).length + ([Tok.num x.p.sg]).length from by simp [Pt.toks]; omega] at this; exact this)
        have HP0 := Lib.hid HPn.out
        have HQ0 := Lib.hid HKp.out
        go_wp2_with fail
        refine (pen_num x.p.fr B g _ _ _ HP0.out (by have := HS2.out; simp only [List.length_cons, List.length_nil] at *; omega) (by have := HQ0.out.size; omega)).mono ?_
        rintro e z0w ⟨rfl, hk2, hh2⟩
        replace c1 := hk2.cellB hBg c1 hab2
        replace c2 := hk2.cellB hBg c2 hab2
        replace c3 := hk2.cellB hBg c3 hab2
        have HI1 := Lib.hid (HI0.out.reads (Reads.kept hk2 hBg))
        have HQ1 := Lib.hid (HQ0.out.trans hk2)
        have HP1 := Lib.hid hh2
        clear hk2 hh2 c0
        go_wp2_with fail
        refine (pen_votes x.p.vs x.A1 x.c1 B g _ _ _ HP1.out HI1.out.vs (by have := HS2.out; simp only [List.length_cons, List.length_nil] at *; omega) (by have := HQ1.out.size; omega)).mono ?_
        rintro e z1w ⟨rfl, hk2, hh2⟩
        replace c2 := hk2.cellB hBg c2 hab2
        replace c3 := hk2.cellB hBg c3 hab2
        have HI2 := Lib.hid (HI1.out.reads (Reads.kept hk2 hBg))
        have HQ2 := Lib.hid (HQ1.out.trans hk2)
        have HP2 := Lib.hid hh2
        clear hk2 hh2 c1
        go_wp2_with fail
        refine (pen_certs x.p.cs x.A2 x.c2 B g _ _ _ HP2.out HI2.out.cs (by have := HS2.out; simp only [List.length_cons, List.length_nil] at *; omega) (by have := HQ2.out.size; omega)).mono ?_
        rintro e z2w ⟨rfl, hk2, hh2⟩
        replace c3 := hk2.cellB hBg c3 hab2
        have HI3 := Lib.hid (HI2.out.reads (Reads.kept hk2 hBg))
        have HQ3 := Lib.hid (HQ2.out.trans hk2)
        have HP3 := Lib.hid hh2
        clear hk2 hh2 c2
        go_wp2_with fail
        refine (pen_num x.p.sg B g _ _ _ HP3.out (by have := HS2.out; simp only [List.length_cons, List.length_nil] at *; omega) (by have := HQ3.out.size; omega)).mono ?_
        rintro e z3w ⟨rfl, hk2, hh2⟩
        have HI4 := Lib.hid (HI3.out.reads (Reads.kept hk2 hBg))
        have HQ4 := Lib.hid (HQ3.out.trans hk2)
        have HP4 := Lib.hid hh2
        clear hk2 hh2 c3
        have HN : Hid (PenPartsRel l w B g L st (.int .i64 ((k + 1 : Nat) : Int)) z3w) := ⟨k + 1, rfl, hlt, HQ4.out, by
          have h := HP4.out
          simp only [← penStep_app] at h
          rw [HMo.out, show Pt.toks x.p = [Tok.num x.p.fr] ++ (listToks Vt.toks x.p.vs ++ (listToks Ct.toks x.p.cs ++ ([Tok.num x.p.sg]))) from by simp [Pt.toks], List.length_append]
          simp only [List.append_assoc] at h ⊢
          exact h.more (by simp only [List.length_append]; omega)⟩
        clear ce
        go_wp2
        go_roundw
        case rel => exact HN.out
        case measure => simp [intOf]; omega
      · have hke : k = l.length := by omega
        have HE : Hid (PenPost w B g L st (listToks Pt.toks l) (.returned (.tuple #[])) wr) := ⟨rfl, HKp.out, by have h := HPn.out; rw [List.take_of_length_le (by omega)] at h; exact h⟩
        clear hke
        go_wp2_with fail
        go_end0
        exact HE.out


/-- What done answers. -/
def DonePost (B : Nat) (st : Option (List Int)) (w : World) (e : Ending) (w' : World) : Prop :=
  w = w' ∧ ((∃ bs A c, st = some bs ∧ e = .returned (.tuple #[.slice A bs.length c, .bool true]) ∧ w.ownsRow B 5 1 (.slice A bs.length c) bs.length (u8s bs)) ∨ (st = none ∧ e = .returned (.tuple #[.slice none 0 0, .bool false])))
set_option maxHeartbeats 400000 in
theorem pen_done (B g L : Nat) (st : Option (List Int)) (w : World) (hw : PenHas w B g L st) :
    Calls Tryz.prog 44 #[.pointer (some ⟨g, 0, none⟩)] w (DonePost B st w) := by
  obtain ⟨bs, bad, ⟨_, A2, c2, hb, ho⟩, _, hs⟩ := hw
  rcases hs with ⟨rfl, rfl⟩ | ⟨rfl, rfl⟩
  · have ce0 : w.cell? ⟨g, 0, none⟩ = some (.slice A2 bs.length c2) := hb.cell 0
    have ce1 : w.cell? ⟨g, 1, none⟩ = some (.bool false) := hb.cell 1
    have HO := Lib.hid ho
    clear hb ho
    go_enter Tryz.func44, Tryz.ntmps44
    go_wp2
    go_ret2
    exact ⟨rfl, Or.inl ⟨bs, A2, c2, rfl, rfl, HO.out⟩⟩
  · have ce1 : w.cell? ⟨g, 1, none⟩ = some (.bool true) := hb.cell 1
    clear hb ho
    go_enter Tryz.func44, Tryz.ntmps44
    go_wp2
    go_ret2
    exact ⟨rfl, Or.inr ⟨rfl, rfl⟩⟩
theorem PenHas.new (w : World) : PenHas (w.alloc (.cells #[.slice none 0 0, .bool false] 85)) w.heap.size w.heap.size 0 (some []) :=
  ⟨[], false, ⟨Nat.le_refl _, none, 0, Blk.new _ _ _, World.ownsRow_nil _ _ _ _⟩, Nat.le_refl _, Or.inl ⟨rfl, rfl⟩⟩
theorem PenHas.new1 (w : World) (o : Obj) : PenHas ((w.alloc o).alloc (.cells #[.slice none 0 0, .bool false] 85)) w.heap.size (w.heap.size + 1) 0 (some []) :=
  ⟨[], false, ⟨Nat.le_succ _, none, 0, Blk.new1 _ _ _ _, World.ownsRow_nil _ _ _ _⟩, Nat.le_refl _, Or.inl ⟨rfl, rfl⟩⟩
theorem penStep_new (ts : List Tok) : penStep (some []) ts = bytesOf ts := by
  simp only [penStep, bytesOf]
  cases codes ts <;> simp
end Go.Proofs.YtiffmjfbdidgkaaGreat
