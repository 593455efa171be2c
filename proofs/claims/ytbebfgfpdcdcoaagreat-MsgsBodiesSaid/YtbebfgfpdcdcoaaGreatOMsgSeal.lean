/- The contract of msgs.Seal. -/
import Derived.Test.YtbebfgfpdcdcoaaGreatOMsgBody
import Derived.Test.YtbebfgfpdcdcoaaGreatOS5
import Derived.Test.YtbebfgfpdcdcoaaGreatOS0
import Derived.Test.YtbebfgfpdcdcoaaGreatONotary
namespace Go.Proofs.YtbebfgfpdcdcoaaGreat
open Go.RowKit

/-- What a message's seal is given for. -/
def deedM (m : Mg) (bs : List Int) : Deed := (m.fr, strOfNums bs)
/-- What Seal does and answers. -/
def SealPost (m : Mg) (l : List Deed) (nb bm : Nat) (w : World) (e : Ending) (w' : World) : Prop :=
  (bodyM m = none ∧ e = .returned (.tuple #[.slice none 0 0, .bool false]) ∧ Below w.heap.size w w') ∨
  (∃ bs, bodyM m = some bs ∧ Nt w' nb bm (sealed l (deedM m bs)) ∧ Turn (fun k => k = bm) w w' ∧
    ((∃ es A c, envS (sealS l (deedM m bs)) bs = some es ∧ e = .returned (.tuple #[.slice A es.length c, .bool true]) ∧ w'.ownsRow w.heap.size 5 1 (.slice A es.length c) es.length (u8s es)) ∨
      (envS (sealS l (deedM m bs)) bs = none ∧ e = .returned (.tuple #[.slice none 0 0, .bool false]))))
set_option maxHeartbeats 4000000 in
set_option maxRecDepth 100000 in
theorem mseal_any (x : Ms) {w : World} (h : x.In w w.heap.size) (hsz : 6 * x.m.toks.length ≤ 70368744177664) (hfr : fit x.m.fr) {nb bm : Nat} {l : List Deed} (hN : Nt w nb bm l) (hlen : l.length ≤ 1000000) :
    Calls Tryz.prog 16 #[.agg #[.int .i64 x.m.kd, .int .i64 x.m.fr, .int .i64 x.m.vw, .int .i64 x.m.ins, .int .i64 x.m.sq, .int .i64 x.m.rs, .slice x.A1 x.m.bt.length x.c1, .slice x.A2 x.m.vs.length x.c2, .slice x.A3 x.m.cs.length x.c3, .slice x.A4 x.m.ps.length x.c4], .pointer (some ⟨nb, 0, none⟩)] w (SealPost x.m l nb bm w) := by
  have hb1 : Below w.heap.size w (w.alloc (.cells #[.int .i64 x.m.kd, .int .i64 x.m.fr, .int .i64 x.m.vw, .int .i64 x.m.ins, .int .i64 x.m.sq, .int .i64 x.m.rs, .slice x.A1 x.m.bt.length x.c1, .slice x.A2 x.m.vs.length x.c2, .slice x.A3 x.m.cs.length x.c3, .slice x.A4 x.m.ps.length x.c4] 38)) := (Below.refl _ w).alloc (Nat.le_refl _) _
  have HB1 := Lib.hid hb1
  have HBl := Lib.hid (Blk.new w 38 #[.int .i64 x.m.kd, .int .i64 x.m.fr, .int .i64 x.m.vw, .int .i64 x.m.ins, .int .i64 x.m.sq, .int .i64 x.m.rs, .slice x.A1 x.m.bt.length x.c1, .slice x.A2 x.m.vs.length x.c2, .slice x.A3 x.m.cs.length x.c3, .slice x.A4 x.m.ps.length x.c4])
  have HI := Lib.hid ((h.reads (Reads.below hb1 (Nat.le_refl _))).reads (Reads.more hb1.size))
  have HN := Lib.hid (hN.below hb1)
  have HL := Lib.hid hN.lt
  clear h hN hb1
  go_enter Tryz.func16, Tryz.ntmps16
  go_wp2_with fail
  obtain ⟨w1, hw1⟩ : ∃ w1, (w.alloc (.cells #[.int .i64 x.m.kd, .int .i64 x.m.fr, .int .i64 x.m.vw, .int .i64 x.m.ins, .int .i64 x.m.sq, .int .i64 x.m.rs, .slice x.A1 x.m.bt.length x.c1, .slice x.A2 x.m.vs.length x.c2, .slice x.A3 x.m.cs.length x.c3, .slice x.A4 x.m.ps.length x.c4] 38)) = w1 := ⟨_, rfl⟩
  rw [hw1] at HB1 HBl HI HN ⊢
  clear hw1
  refine (body_any x w1 HI.out hsz).mono ?_
  rintro e w2 ⟨hb2, ⟨bs, A, c, hbs, rfl, ho⟩ | ⟨hbs, rfl⟩⟩
  · have HB2 := Lib.hid hb2
    have HBS := Lib.hid hbs
    have HO := Lib.hid ho
    obtain ⟨n, hn⟩ : ∃ n, bs.length = n := ⟨_, rfl⟩
    have hn1 : n ≤ 65536 := by rw [← hn]; exact bodyM_len hbs
    rw [hn] at HO ⊢
    have HNn := Lib.hid hn
    have d1 := (HBl.out.below hb2 HBl.out.lt).cell 1
    simp only [List.getElem?_toArray, List.getElem?_cons_zero, List.getElem?_cons_succ] at d1
    clear hb2 hbs ho hn
    go_wp2_with fail
    refine (seal_any (HN.out.below HB2.out) hlen hfr (Has.own HO.out) HNn.out (by unfold maxLen; omega)).mono ?_
    rintro e w3 ⟨rfl, hnt, ht⟩
    have ho3 := ht.own HO.out (fun g hg => by
      have h1 := (HO.out.lt g hg).1
      have h2 := HL.out.2
      have h3 := HB1.out.size
      omega)
    have HT := Lib.hid ((((Turn.of_below (Z := fun k => k = bm) HB1.out).trans (Turn.of_below HB2.out))).trans ht)
    have HN3 := Lib.hid hnt
    have HO3 := Lib.hid ho3
    obtain ⟨sl, hsl⟩ : ∃ sl, sealS l (x.m.fr, strOfNums bs) = sl := ⟨_, rfl⟩
    rw [hsl]
    have HSl := Lib.hid hsl
    clear hnt ht ho3 hsl d1
    go_wp2_with fail
    refine (envelope_any sl HNn.out (by omega) _ (Has.own HO3.out) (gr_none HO3.out)).mono ?_
    rintro e w4 ⟨hb4, ⟨es, A4, c4, hes, rfl, ho4⟩ | ⟨hes, rfl⟩⟩
    · have HT4 := Lib.hid (HT.out.trans (Turn.of_below hb4))
      have HN4 := Lib.hid (HN3.out.below hb4)
      have HE := Lib.hid hes
      have hle : w.heap.size ≤ w3.heap.size := HT.out.size
      have HO4 := Lib.hid (own_down ho4 hle)
      clear hb4 hes ho4 hle
      go_wp2_with fail
      go_ret2
      refine Or.inr ⟨bs, HBS.out, HN4.out, HT4.out, ?_⟩
      unfold deedM
      rw [HSl.out]
      exact Or.inl ⟨es, A4, c4, HE.out, rfl, HO4.out⟩
    · have HT4 := Lib.hid (HT.out.trans (Turn.of_below hb4))
      have HN4 := Lib.hid (HN3.out.below hb4)
      have HE := Lib.hid hes
      clear hb4 hes
      go_wp2_with fail
      go_ret2
      refine Or.inr ⟨bs, HBS.out, HN4.out, HT4.out, ?_⟩
      unfold deedM
      rw [HSl.out]
      exact Or.inr ⟨HE.out, rfl⟩
  · have HB2 := Lib.hid (HB1.out.trans (hb2.mono HB1.out.size))
    have HBS := Lib.hid hbs
    clear hb2 hbs
    go_wp2_with fail
    go_ret2
    exact Or.inl ⟨HBS.out, rfl, HB2.out⟩
end Go.Proofs.YtbebfgfpdcdcoaaGreat
