/- The contract of keep.CopyCerts: certificates of the call's own, the same ones. -/
import Derived.Test.YtbebfgfpdcdcoaaGreatOS5
import Derived.Test.YtbebfgfpdcdcoaaGreatOS3
import Derived.Test.YtbebfgfpdcdcoaaGreatOTakeCerts
import Derived.Deep.RegionLaw
import Derived.Deep.DeepCutAuto
namespace Go.Proofs.YtbebfgfpdcdcoaaGreat
open Go.RowKit

/-- A certificate whose lists are there whole. -/
structure Cs.Full (w : World) (B : Nat) (x : Cs) : Prop where
  in_ : x.In w B
  n1 : x.A1 = none → x.c1 = 0
  n2 : x.A2 = none → x.c2 = 0
  s1 : x.c.bt.length ≤ 1048576
  s2 : x.c.vs.length ≤ 1048576
def FullCerts (w : World) (B : Nat) (A : Option Addr) (l : List Ct) : Prop := ∃ L : List Cs, L.map Cs.c = l ∧ Has w B A (L.flatMap Cs.cells) ∧ ∀ x ∈ L, x.Full w B
theorem FullCerts.reads {w w' : World} {B B' : Nat} {A : Option Addr} {l : List Ct} (h : FullCerts w B A l) (hr : Reads B B' w w') : FullCerts w' B' A l := by
  obtain ⟨L, h1, h2, h3⟩ := h
  exact ⟨L, h1, hr _ _ h2, fun x hx => ⟨(h3 x hx).in_.reads hr, (h3 x hx).n1, (h3 x hx).n2, (h3 x hx).s1, (h3 x hx).s2⟩⟩
theorem FullCerts.at {w : World} {B : Nat} {A : Option Addr} {l : List Ct} (h : FullCerts w B A l) {k : Nat} (hk : k < l.length) :
    ∃ (ad : Addr) (x : Cs), A = some ad ∧ ad.block < B ∧ x.c = l[k] ∧ x.Full w B ∧ w.cell? (ad.add (k * 5)) = some (.int .i64 x.c.vw) ∧ w.cell? ⟨(ad.add (k * 5)).block, (ad.add (k * 5)).off + 1, none⟩ = some (.int .i64 x.c.ins) ∧
      w.cell? ⟨(ad.add (k * 5)).block, (ad.add (k * 5)).off + 2, none⟩ = some (.int .i64 x.c.sq) ∧ w.cell? ⟨(ad.add (k * 5)).block, (ad.add (k * 5)).off + 3, none⟩ = some (.slice x.A1 x.c.bt.length x.c1) ∧
      w.cell? ⟨(ad.add (k * 5)).block, (ad.add (k * 5)).off + 4, none⟩ = some (.slice x.A2 x.c.vs.length x.c2) := by
  obtain ⟨L, rfl, h2, h3⟩ := h
  have hk' : k < L.length := by simpa using hk
  obtain ⟨ad, e, hb, hc⟩ := h2.thing (f := Cs.cells) (s := 5) (fun _ => rfl) (by omega) hk'
  refine ⟨ad, L[k], e, hb, by simp, h3 _ (List.getElem_mem hk'), hc 0 _ rfl, ?_, ?_, ?_, ?_⟩
  · rw [← add_pos _ _ _ (by omega)]; exact hc 1 _ rfl
  · rw [← add_pos _ _ _ (by omega)]; exact hc 2 _ rfl
  · rw [← add_pos _ _ _ (by omega)]; exact hc 3 _ rfl
  · rw [← add_pos _ _ _ (by omega)]; exact hc 4 _ rfl
theorem keeps_blk {T : TypeId} {w : World} {g : Nat} {cs : Array Value} (h : Blk w g T cs) (i : Nat) (v : Value) : KeepsRows T w (w.setCell ⟨g, i, none⟩ v) := fun _ _ _ _ _ _ hne ho => own_far ho (p := ⟨g, i, none⟩) (own_blk_ne ho h hne) v
/-- These certificates have been copied. -/
structure CcSt (w : World) (l : List Ct) (k : Nat) (v : Value) (wr : World) : Prop where
  low : Below w.heap.size w wr
  out : ∃ L : List Cs, L.length = k ∧ L.map Cs.c = l.take k ∧ wr.ownsRow w.heap.size 25 5 v k (L.flatMap Cs.cells) ∧ ∀ x ∈ L, x.Own wr w.heap.size
set_option maxHeartbeats 4000000 in
set_option maxRecDepth 100000 in
theorem copy_certs_full (A : Option Addr) (c n : Nat) (l : List Ct) (w : World) (hl : l.length = n) (hm : n ≤ 1000000) (hh : FullCerts w w.heap.size A l) :
    Calls Tryz.prog 35 #[.slice A n c] w fun e w' => ∃ v, e = .returned v ∧ OwnCerts w' w.heap.size v l ∧ Below w.heap.size w w' := by
  obtain ⟨i0, hi0, hx0, hx1, hx2⟩ := info_parts Tryz.info25
  have HH := Lib.hid hh
  have HL := Lib.hid hl
  clear hh hl
  go_enter Tryz.func35, Tryz.ntmps35
  go_wp2_with fail
  go_loopw [3, 4] (fun v x wr => ∃ k : Nat, x = .int .i64 k ∧ k ≤ n ∧ Hid (CcSt w l k v wr)) (fun _ x _ => n - (intOf x).toNat)
  case atStart => exact ⟨0, rfl, Nat.zero_le _, Below.refl _ _, [], rfl, rfl, World.ownsRow_nil _ _ _ _, by simp⟩
  case round =>
    obtain ⟨k, rfl, hk, HT⟩ := hrel
    by_cases hlt : k < n
    · have hlt2 : k < l.length := by rw [HL.out]; exact hlt
      obtain ⟨ad, x, rfl, hadb, hxk, hfull, c0, c1, c2, c3, c4⟩ := (HH.out.reads (Reads.below HT.out.low (Nat.le_refl _))).at hlt2
      have HX := Lib.hid hxk
      have HFu := Lib.hid hfull
      obtain ⟨L, hLk, hLm, hLo, hLi⟩ := HT.out.out
      have HLk := Lib.hid hLk
      have HLm := Lib.hid hLm
      have HLo := Lib.hid hLo
      have HLi := Lib.hid hLi
      have hs := HT.out.low.size
      have n1 := hfull.n1
      have n2 := hfull.n2
      have s1 := hfull.s1
      have s2 := hfull.s2
      clear hxk hfull hLk hLm hLo hLi
      go_upto_region 6 with fail
      have hb1 : Below wr.heap.size wr (wr.alloc (.cells #[.int .i64 x.c.vw, .int .i64 x.c.ins, .int .i64 x.c.sq, .slice x.A1 x.c.bt.length x.c1, .slice x.A2 x.c.vs.length x.c2] 25)) := (Below.refl _ _).alloc (Nat.le_refl _) _
      have HB1 := Lib.hid hb1
      have HK1 := Lib.hid (Blk.new wr 25 #[.int .i64 x.c.vw, .int .i64 x.c.ins, .int .i64 x.c.sq, .slice x.A1 x.c.bt.length x.c1, .slice x.A2 x.c.vs.length x.c2])
      obtain ⟨w1, hw1⟩ : ∃ w1, wr.alloc (.cells #[.int .i64 x.c.vw, .int .i64 x.c.ins, .int .i64 x.c.sq, .slice x.A1 x.c.bt.length x.c1, .slice x.A2 x.c.vs.length x.c2] 25) = w1 := ⟨_, rfl⟩
      obtain ⟨g, hg⟩ : ∃ g, wr.heap.size = g := ⟨_, rfl⟩
      rw [hw1] at HB1 HK1 ⊢
      have HG := Lib.hid hg
      rw [hg] at HK1 ⊢
      have hI1 := HFu.out.in_.reads (Reads.below (hb1.mono hs) (Nat.le_refl _))
      rw [hw1] at hI1
      have HI1 := Lib.hid hI1
      have d0 : w1.cell? ⟨g, 0, none⟩ = some (.int .i64 x.c.vw) := HK1.out.cell 0
      have d1 : w1.cell? ⟨g, 1, none⟩ = some (.int .i64 x.c.ins) := HK1.out.cell 1
      have d2 : w1.cell? ⟨g, 2, none⟩ = some (.int .i64 x.c.sq) := HK1.out.cell 2
      have d3 : w1.cell? ⟨g, 3, none⟩ = some (.slice x.A1 x.c.bt.length x.c1) := HK1.out.cell 3
      have d4 : w1.cell? ⟨g, 4, none⟩ = some (.slice x.A2 x.c.vs.length x.c2) := HK1.out.cell 4
      have hgl := HK1.out.lt
      have hs1 : w.heap.size ≤ w1.drew.heap.size := Nat.le_trans hs HB1.out.size
      clear hw1 hg hb1 hI1 c0 c1 c2 c3 c4
      go_region_law (first
        | (go_simp
           go_at_call 92
           refine (mcopy_reqs x.A1 x.c1 x.c.bt.length w.heap.size x.c.bt w1.drew rfl s1 HI1.out.bt.drew n1).mono ?_
           rintro e w2 ⟨v1, rfl, ho1, hb2⟩
           obtain ⟨B1, e1, rfl, _, _⟩ := own_slice ho1
           have q0 := (Below.cell hb2 (p := ⟨g, 0, none⟩) hgl).trans d0
           have q3 := (Below.cell hb2 (p := ⟨g, 3, none⟩) hgl).trans d3
           have q4 := (Below.cell hb2 (p := ⟨g, 4, none⟩) hgl).trans d4)
        | (go_simp
           go_at_call 93
           refine (mcopy_votes x.A2 x.c2 x.c.vs.length w.heap.size x.c.vs w2 rfl s2 (HI1.out.vs.drew.below (Below.mono hb2 hs1) (Nat.le_refl _)) n2).mono ?_
           rintro e w3 ⟨v2, rfl, ho2, hb3⟩
           obtain ⟨B2, e2, rfl, _, _⟩ := own_slice ho2
           have hk2 := Blk.below (Blk.drew HK1.out) hb2 hgl
           have hk3 := Blk.below hk2 hb3 hk2.lt
           have p0 := Blk.cell hk3 0
           have p1 := Blk.cell hk3 1
           have p2 := Blk.cell hk3 2
           have p3 := Blk.cell hk3 3
           have p4 := Blk.cell hk3 4
           have r3 := Blk.frozen hk3 3
           have r4 := Blk.frozen hk3 4))
      all_goals
        have hk4 : Blk ((w3.setCell ⟨g, 3, none⟩ (.slice B1 x.c.bt.length e1)).setCell ⟨g, 4, none⟩ (.slice B2 x.c.vs.length e2)) g 25 #[.int .i64 x.c.vw, .int .i64 x.c.ins, .int .i64 x.c.sq, .slice B1 x.c.bt.length e1, .slice B2 x.c.vs.length e2] := (hk3.set_ 3 (.slice B1 x.c.bt.length e1)).set_ 4 (.slice B2 x.c.vs.length e2)
        have hkp := (keeps_blk hk3 3 (.slice B1 x.c.bt.length e1)).trans (keeps_blk (hk3.set_ 3 (.slice B1 x.c.bt.length e1)) 4 (.slice B2 x.c.vs.length e2))
        have hb12 : Below wr.heap.size wr w3 := (HB1.out.trans (RowKit.Below.mono (show Below w1.heap.size w1 w2 from ⟨hb2.os, hb2.tape, hb2.output, hb2.size, hb2.block⟩) HB1.out.size)).trans (hb3.mono (Nat.le_trans HB1.out.size hb2.size))
        have hout3 := below_own HLo.out hb12 (Nat.le_refl _)
        have hng : ∀ j, Value.ownBlock u3 = some j → j ≠ g := fun j hj => by
          have h1 := (HLo.out.lt j hj).2
          have h2 := HG.out
          omega
        have hout4 : ((w3.setCell ⟨g, 3, none⟩ (.slice B1 x.c.bt.length e1)).setCell ⟨g, 4, none⟩ (.slice B2 x.c.vs.length e2)).ownsRow w.heap.size 25 5 u3 k (L.flatMap Cs.cells) := own_far (own_far hout3 (p := ⟨g, 3, none⟩) (fun he => hng _ he rfl) _) (p := ⟨g, 4, none⟩) (fun he => hng _ he rfl) _
        have hin4 : ∀ y ∈ L, y.Own ((w3.setCell ⟨g, 3, none⟩ (.slice B1 x.c.bt.length e1)).setCell ⟨g, 4, none⟩ (.slice B2 x.c.vs.length e2)) w.heap.size := fun y hy => ((HLi.out y hy).keeps (KeepsRows.below (T := 25) hb12) (by decide) (by decide)).keeps hkp (by decide) (by decide)
        have hx1 := own_base (hkp _ _ _ _ _ _ (by decide) (below_own ho1 hb3 (Nat.le_refl _))) hs1
        have hx2 := own_base (hkp _ _ _ _ _ _ (by decide) ho2) (Nat.le_trans hs1 hb2.size)
        have hlow4 : Below w.heap.size w ((w3.setCell ⟨g, 3, none⟩ (.slice B1 x.c.bt.length e1)).setCell ⟨g, 4, none⟩ (.slice B2 x.c.vs.length e2)) := ((HT.out.low.trans (hb12.mono hs)).setCell (p := ⟨g, 3, none⟩) (by show w.heap.size ≤ g; have := HG.out; omega) _).setCell (p := ⟨g, 4, none⟩) (by show w.heap.size ≤ g; have := HG.out; omega) _
        obtain ⟨w4, hw4⟩ : ∃ w4, ((w3.setCell ⟨g, 3, none⟩ (.slice B1 x.c.bt.length e1)).setCell ⟨g, 4, none⟩ (.slice B2 x.c.vs.length e2)) = w4 := ⟨_, rfl⟩
        rw [hw4] at hk4 hkp hout4 hin4 hx1 hx2 hlow4 ⊢
        have HO4 := Lib.hid hout4
        have HI4 := Lib.hid hin4
        have HX1 := Lib.hid hx1
        have HX2 := Lib.hid hx2
        have HW4 := Lib.hid hlow4
        have y0 := Blk.cell hk4 0
        have y1 := Blk.cell hk4 1
        have y2 := Blk.cell hk4 2
        have y3 := Blk.cell hk4 3
        have y4 := Blk.cell hk4 4
        simp only [List.getElem?_toArray, List.getElem?_cons_zero, List.getElem?_cons_succ] at y0 y1 y2 y3 y4
        clear hk2 hk3 hk4 hkp hb12 hout3 hng hout4 hin4 hx1 hx2 hlow4 hw4 p0 p1 p2 p3 p4 r3 r4 q0 q3 q4 ho1 ho2 hb2 hb3 d0 d1 d2 d3 d4 HB1 HI1 HK1 hs1
        go_wp2_with (at_builtin; refine wpList_append_own _ rfl (.tmp 24) (.tmp 26) 35 rfl w.heap.size 25 i0 _ 5 72 Tryz.underlying35 hi0 hx0 hx1 hx2 rfl (by decide) _ _ _ rfl (HO4.out.alloc _) ⟨w4.heap.size, 0, none⟩ 1 1 [.int .i64 x.c.vw, .int .i64 x.c.ins, .int .i64 x.c.sq, .slice B1 x.c.bt.length e1, .slice B2 x.c.vs.length e2] rfl rfl ?c1 ?c2 ?c3 ?c4 ?c5 ?_)
        case c1 => exact World.news_of_block (cs := #[.int .i64 x.c.vw, .int .i64 x.c.ins, .int .i64 x.c.sq, .slice B1 x.c.bt.length e1, .slice B2 x.c.vs.length e2]) (heap_alloc_new w4 (.cells #[.int .i64 x.c.vw, .int .i64 x.c.ins, .int .i64 x.c.sq, .slice B1 x.c.bt.length e1, .slice B2 x.c.vs.length e2] 25))
        case c2 => intro u hu; simp at hu; rcases hu with rfl | rfl | rfl | rfl | rfl <;> rfl
        case c3 => unfold maxLen; omega
        case c4 => omega
        case c5 => have := HW4.out.size; simp; omega
        intro v5 w5 ho5 hg5 _
        have HO5 := Lib.hid (show w5.ownsRow w.heap.size 25 5 v5 (k + 1) ((L ++ [(⟨x.c, B1, e1, B2, e2⟩ : Cs)]).flatMap Cs.cells) from by rw [List.flatMap_append]; exact ho5)
        have hka : ∀ {b n s : Nat} {e : TypeId} {v : Value} {xs : List Value}, e ≠ 25 → w4.ownsRow b e s v n xs → w5.ownsRow b e s v n xs := fun hne hr => (hr.alloc (.cells #[.int .i64 x.c.vw, .int .i64 x.c.ins, .int .i64 x.c.sq, .slice B1 x.c.bt.length e1, .slice B2 x.c.vs.length e2] 25)).kept hg5 (own_apart (hr.alloc (.cells #[.int .i64 x.c.vw, .int .i64 x.c.ins, .int .i64 x.c.sq, .slice B1 x.c.bt.length e1, .slice B2 x.c.vs.length e2] 25)) (HO4.out.alloc (.cells #[.int .i64 x.c.vw, .int .i64 x.c.ins, .int .i64 x.c.sq, .slice B1 x.c.bt.length e1, .slice B2 x.c.vs.length e2] 25)) hne)
        have hnew : CcSt w l (k + 1) v5 w5 := by
          refine ⟨(HW4.out.alloc HW4.out.size (.cells #[.int .i64 x.c.vw, .int .i64 x.c.ins, .int .i64 x.c.sq, .slice B1 x.c.bt.length e1, .slice B2 x.c.vs.length e2] 25)).grown hg5 (by have := HW4.out.size; simp; omega) (fun j hj => (HO4.out.lt j hj).1), L ++ [(⟨x.c, B1, e1, B2, e2⟩ : Cs)], by rw [List.length_append, HLk.out]; rfl, ?_, HO5.out, ?_⟩
          · rw [List.map_append, HLm.out, List.take_succ_eq_append_getElem hlt2, ← HX.out]; rfl
          · intro y hy
            rcases List.mem_append.1 hy with hy | hy
            · exact ⟨hka (by decide) (HI4.out y hy).bt, hka (by decide) (HI4.out y hy).vs⟩
            · simp at hy; subst hy; exact ⟨hka (by decide) HX1.out, hka (by decide) HX2.out⟩
        have HNew := Lib.hid hnew
        clear hka hnew ho5 hg5 y0 y1 y2 y3 y4
        go_wp2
        go_roundw
        case rel => exact ⟨k + 1, by go_num, by omega, HNew.out⟩
        case measure => simp [intOf]; omega
    · have hke : k = n := by omega
      obtain ⟨L, hLk, hLm, hLo, hLi⟩ := HT.out.out
      rw [List.take_of_length_le (by rw [HL.out]; omega)] at hLm
      have HR := Lib.hid (show OwnCerts wr w.heap.size u3 l from ⟨L, hLm, by rw [hLk]; exact hLo, hLi⟩)
      clear hLk hLm hLo hLi hke
      go_wp2_with fail
      go_ret
      exact ⟨_, rfl, HR.out, HT.out.low⟩
end Go.Proofs.YtbebfgfpdcdcoaaGreat
