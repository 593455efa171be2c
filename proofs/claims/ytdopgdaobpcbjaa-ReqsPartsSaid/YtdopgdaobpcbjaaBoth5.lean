/- The contract of the law's own Both: two notaries that have sealed the same, and requests. -/
import Derived.Test.YtdopgdaobpcbjaaMakes5Walk
namespace Go.Proofs.Ytdopgdaobpcbjaa
open Go.RowKit

/-- Two notaries, the one with L1, the other with L2, and a row of the call's own. -/
structure Bo (w : World) (nb bm rb : Nat) (outs : List Rq) (L1 L2 : List Deed) (v : Value) (R : Nat → Prop) (wr : World) : Prop where
  own : wr.ownsRow w.heap.size 34 6 v outs.length (reqCells outs)
  nt : Nt wr nb bm L1
  rf : Rf R wr rb L2
  zone : ∀ k, R k → w.heap.size ≤ k ∧ k < wr.heap.size
  nbR : ¬ R nb
  bmR : ¬ R bm
  nbw : w.heap.size ≤ nb
  bmw : w.heap.size ≤ bm
  vR : ∀ g, v.ownBlock = some g → ¬ R g ∧ g ≠ nb ∧ g ≠ bm
  low : Below w.heap.size w wr
section
variable {w wr w2 : World} {nb bm rb : Nat} {outs : List Rq} {L1 L2 L1' L2' : List Deed} {v : Value} {R : Nat → Prop}
/-- A turn elsewhere. -/
theorem Bo.turn {Z : Nat → Prop} (h : Bo w nb bm rb outs L1 L2 v R wr) (ht : Turn Z wr w2) (hz : ∀ k, k < wr.heap.size → Z k → ¬ R k ∧ k ≠ nb ∧ k ≠ bm ∧ v.ownBlock ≠ some k ∧ w.heap.size ≤ k) : Bo w nb bm rb outs L1 L2 v R w2 := by
  refine ⟨ht.own h.own (fun g hg hzg => (hz g (h.own.lt g hg).2 hzg).2.2.2.1 hg), h.nt.kept ht (fun hk => (hz nb h.nt.lt.1 hk).2.1 rfl) (fun hk => (hz bm h.nt.lt.2 hk).2.2.1 rfl),
    h.rf.kept ht (fun k hk hr hzk => (hz k hk hzk).1 hr), fun k hk => ⟨(h.zone k hk).1, Nat.lt_of_lt_of_le (h.zone k hk).2 ht.size⟩, h.nbR, h.bmR, h.nbw, h.bmw, h.vR, ?_⟩
  exact h.low.trans ⟨ht.os, ht.tape, ht.output, ht.size, fun k hk => ht.block k (by have := h.low.size; omega) (fun hzk => by have := (hz k (by have := h.low.size; omega) hzk).2.2.2.2; omega)⟩
theorem Bo.below (h : Bo w nb bm rb outs L1 L2 v R wr) (hb : Below wr.heap.size wr w2) : Bo w nb bm rb outs L1 L2 v R w2 := h.turn (Turn.of_below (Z := fun _ => False) hb) (fun _ _ hk => hk.elim)
/-- The first notary has sealed. -/
theorem Bo.seal (h : Bo w nb bm rb outs L1 L2 v R wr) (ht : Turn (fun k => k = bm) wr w2) (hN : Nt w2 nb bm L1') : Bo w nb bm rb outs L1' L2 v R w2 := by
  refine ⟨ht.own h.own (fun g hg e => (h.vR g hg).2.2 e), hN, h.rf.kept ht (fun k _ hr e => h.bmR (e ▸ hr)), fun k hk => ⟨(h.zone k hk).1, Nat.lt_of_lt_of_le (h.zone k hk).2 ht.size⟩, h.nbR, h.bmR, h.nbw, h.bmw, h.vR, ?_⟩
  exact h.low.trans ⟨ht.os, ht.tape, ht.output, ht.size, fun k hk => ht.block k (by have := h.low.size; omega) (fun e => by have := h.bmw; omega)⟩
/-- The second one has sealed. -/
theorem Bo.rseal (h : Bo w nb bm rb outs L1 L2 v R wr) (ht : Turn R wr w2) (hR : Rf (fun k => R k ∨ wr.heap.size ≤ k) w2 rb L2') : ∃ R', Bo w nb bm rb outs L1 L2' v R' w2 := by
  refine ⟨fun k => (R k ∨ wr.heap.size ≤ k) ∧ k < w2.heap.size, ht.own h.own (fun g hg => (h.vR g hg).1), h.nt.kept ht h.nbR h.bmR, hR.mono (fun k hk hr => ⟨hr, hk⟩), fun k hk => ?_, fun hk => ?_, fun hk => ?_, h.nbw, h.bmw, fun g hg => ⟨fun hk => ?_, (h.vR g hg).2⟩, ?_⟩
  · refine ⟨?_, hk.2⟩
    rcases hk.1 with e | e
    · exact (h.zone k e).1
    · have := h.low.size; omega
  · rcases hk.1 with e | e
    · exact h.nbR e
    · have := h.nt.lt.1; omega
  · rcases hk.1 with e | e
    · exact h.bmR e
    · have := h.nt.lt.2; omega
  · rcases hk.1 with e | e
    · exact (h.vR g hg).1 e
    · have := (h.own.lt g hg).2; omega
  · exact h.low.trans ⟨ht.os, ht.tape, ht.output, ht.size, fun k hk => ht.block k (by have := h.low.size; omega) (fun hr => by have := (h.zone k hr).1; omega)⟩
/-- The row has grown. -/
theorem Bo.put {v2 : Value} {r : Rq} (h : Bo w nb bm rb outs L1 L2 v R wr) (hg : wr.grownBy w2 v.ownBlock) (ho : w2.ownsRow w.heap.size 34 6 v2 (outs.length + 1) (reqCells outs ++ Rq.cells r)) (hl : v2.ownBlock = v.ownBlock ∨ v2.ownBlock = some wr.heap.size) : Bo w nb bm rb (outs ++ [r]) L1 L2 v2 R w2 := by
  have ht : Turn (fun k => v.ownBlock = some k) wr w2 := (Turn.refl _ wr).grown hg (fun k hk _ => hk)
  refine ⟨by rw [List.length_append, reqCells_app]; simpa [reqCells] using ho, h.nt.kept ht (fun e => (h.vR nb e).2.1 rfl) (fun e => (h.vR bm e).2.2 rfl), h.rf.kept ht (fun k _ hr e => (h.vR k e).1 hr), fun k hk => ⟨(h.zone k hk).1, Nat.lt_of_lt_of_le (h.zone k hk).2 ht.size⟩, h.nbR, h.bmR, h.nbw, h.bmw, fun g hg2 => ?_, ?_⟩
  · rcases hl with e | e
    · exact h.vR g (e ▸ hg2)
    · rw [e] at hg2
      cases hg2
      exact ⟨fun hr => by have := (h.zone _ hr).2; omega, by have := h.nt.lt.1; omega, by have := h.nt.lt.2; omega⟩
  · exact h.low.grown hg h.low.size (fun k hk => (h.own.lt k hk).1)
end
/-- What Both leaves. -/
def BothPost (w : World) (e : Ending) (w' : World) : Prop :=
  ∃ outs L nb bm rb v R, e = .returned (.tuple #[v, .pointer (some ⟨nb, 0, none⟩), .pointer (some ⟨rb, 0, none⟩)]) ∧ Bo w nb bm rb outs L L v R w' ∧ L.Nodup ∧ L.length ≤ 30 ∧ outs.length ≤ 30 ∧ ∀ r ∈ outs, r.Fits
/-- What holds at a round's head. -/
structure BoR (w : World) (nb bm rb i : Nat) (v : Value) (wr : World) : Prop where
  ex : ∃ outs L R, Bo w nb bm rb outs L L v R wr ∧ L.Nodup ∧ L.length ≤ i ∧ outs.length = i ∧ ∀ r ∈ outs, r.Fits
theorem info_box : (Try.prog.info? 61).map (fun i => (i.zero, i.size, i.bytes)) = some (some (.agg #[.slice none 0 0, .slice none 0 0]), 2, 48) := by kernel_rfl
set_option maxHeartbeats 4000000 in
theorem both_any (A : Option Addr) (c : Nat) (zs : List Rq) (n : Int) (w : World) (h1 : Has w w.heap.size A (reqCells zs)) (hf : ∀ r ∈ zs, r.Fits) :
    Calls Try.prog 11 #[.slice A zs.length c, .int .i64 n] w (BothPost w) := by
  have H1 := Lib.hid h1
  have HF := Lib.hid hf
  clear h1 hf
  go_enter Try.func11, Try.ntmps11
  go_wp2_with fail
  refine (new_any _).mono ?_
  rintro e w1 ⟨nb, bm, rfl, hN1, hnb, hbm, hb1⟩
  have HB1 := Lib.hid hb1
  have HN1 := Lib.hid hN1
  clear hN1 hb1
  go_wp2_with fail
  have HB2 := Lib.hid (show Below w.heap.size w (w1.alloc (.cells #[.slice none 0 0, .slice none 0 0] 61)) from HB1.out.alloc HB1.out.size _)
  have HBo0 := Lib.hid (show Bo w nb bm w1.heap.size [] [] [] (.slice none 0 0) (fun k => k = w1.heap.size) (w1.alloc (.cells #[.slice none 0 0, .slice none 0 0] 61)) from
    ⟨World.ownsRow_nil _ _ _ _, HN1.out.below ((Below.refl _ _).alloc (Nat.le_refl _) _), ⟨rfl, _, _, Blk.new _ _ _, World.ownsRow_nil _ _ _ _, World.ownsRow_nil _ _ _ _, (fun g hg => by cases hg), (fun g hg => by cases hg)⟩,
      fun k hk => ⟨by rw [hk]; exact HB1.out.size, by rw [hk]; simp⟩, (fun e => by have := HN1.out.lt.1; omega), (fun e => by have := HN1.out.lt.2; omega), hnb, hbm, (fun g hg => by cases hg), HB2.out⟩)
  obtain ⟨rb, hrb⟩ : ∃ rb, w1.heap.size = rb := ⟨_, rfl⟩
  rw [hrb] at HBo0 ⊢
  clear hrb
  go_loopw [9, 10] (fun v x wr => ∃ i : Nat, x = .int .i64 i ∧ i ≤ 30 ∧ i ≤ zs.length ∧ Hid (BoR w nb bm rb i v wr)) (fun _ x _ => zs.length - (intOf x).toNat)
  case atStart => exact ⟨0, rfl, by omega, Nat.zero_le _, ⟨[], [], _, HBo0.out, List.nodup_nil, Nat.le_refl _, rfl, by simp⟩⟩
  case round =>
    obtain ⟨i, rfl, hi30, hil, HR⟩ := hrel
    by_cases hlt : i < zs.length ∧ i < 30
    · obtain ⟨hlt1, hlt2⟩ := hlt
      obtain ⟨outs, L, R, hBo, hnd, hLl, hLo, hFo⟩ := HR.out.ex
      obtain ⟨Av, cv, hv, _, _⟩ := own_slice hBo.own
      have HBr := Lib.hid hBo
      have HNd := Lib.hid hnd
      have HLl := Lib.hid hLl
      have HLo := Lib.hid hLo
      have HFo := Lib.hid hFo
      have hol : outs.length ≤ 30 := by omega
      subst hv
      rw [hLo] at HBr ⊢
      obtain ⟨a1, rfl, _, c0, c1_, c2_, c3_, c4_, c5_⟩ := (H1.out.below HBr.out.low (Nat.le_refl _)).req hlt1
      have HFr := Lib.hid (HF.out _ (List.getElem_mem hlt1))
      obtain ⟨r, hr⟩ : ∃ r, zs[i] = r := ⟨_, rfl⟩
      rw [hr] at c0 c1_ c2_ c3_ c4_ c5_ HFr
      have HZone := Lib.hid (fun k hk => (HBr.out.zone k hk).2)
      have HVlt := Lib.hid (fun g hg => (HBr.out.own.lt g hg).2)
      obtain ⟨gB, hgB⟩ : ∃ gB, wr.heap.size = gB := ⟨_, rfl⟩
      rw [hgB] at HZone HVlt
      have HGw := Lib.hid (show w.heap.size ≤ gB by rw [← hgB]; exact HBr.out.low.size)
      have HGlt := Lib.hid (show nb < gB ∧ bm < gB by rw [← hgB]; exact HBr.out.nt.lt)
      have HBoxa := Lib.hid (show Blk (wr.alloc (.cells #[.int .i64 r.cl, .int .i64 r.tm, .int .i64 r.kd, .int .i64 r.ky, .int .i64 r.vl, .int .i64 r.sg] 34)) wr.heap.size 34 #[.int .i64 r.cl, .int .i64 r.tm, .int .i64 r.kd, .int .i64 r.ky, .int .i64 r.vl, .int .i64 r.sg] from Blk.new _ _ _)
      have HBa := Lib.hid (HBr.out.below ((Below.refl _ wr).alloc (Nat.le_refl _) (.cells #[.int .i64 r.cl, .int .i64 r.tm, .int .i64 r.kd, .int .i64 r.ky, .int .i64 r.vl, .int .i64 r.sg] 34)))
      have HGb := Lib.hid (show (wr.alloc (.cells #[.int .i64 r.cl, .int .i64 r.tm, .int .i64 r.kd, .int .i64 r.ky, .int .i64 r.vl, .int .i64 r.sg] 34)).heap.size = gB + 1 by simp [hgB])
      rw [hgB] at HBoxa
      have HGe := Lib.hid hgB
      clear hr hnd hLl hLo hFo hgB hBo HR
      go_wp2_with fail
      rw [HGe.out]
      refine (rbody_any r _).mono ?_
      rintro e wb hp
      have HBb := Lib.hid (HBa.out.below hp.1)
      have hbx := HBoxa.out.below hp.1 HBoxa.out.lt
      have HBox := Lib.hid hbx
      have d0 := hbx.cell 0
      have d1 := hbx.cell 1
      have d2 := hbx.cell 2
      have d3 := hbx.cell 3
      have d4 := hbx.cell 4
      have d5 := hbx.cell 5
      simp only [List.getElem?_toArray, List.getElem?_cons_zero, List.getElem?_cons_succ] at d0 d1 d2 d3 d4 d5
      clear hbx c0 c1_ c2_ c3_ c4_ c5_
      rcases hp with ⟨_, ⟨bs, A1, c1, hbs, rfl, ho⟩ | ⟨hno, rfl⟩⟩
      · have HBs := Lib.hid (show bodyS r = some bs from hbs)
        clear hbs
        by_cases h4 : (i : Int) % 4 = 3
        · have t4 : ((i : Int) % 4 != 3) = false := by simp [h4]
          clear h4 ho
          obtain ⟨wx, hwx⟩ : ∃ wx, wb = wx := ⟨_, rfl⟩
          have HBx := Lib.hid (hwx ▸ HBb.out)
          rw [hwx] at d0 d1 d2 d3 d4 d5 ⊢
          clear hwx
          have HOw := HBx.out.own.alloc (.cells #[.int .i64 r.cl, .int .i64 r.tm, .int .i64 r.kd, .int .i64 r.ky, .int .i64 r.vl, .int .i64 r.sg] 34)
          have HBxa := Lib.hid (HBx.out.below ((Below.refl _ wx).alloc (Nat.le_refl _) (.cells #[.int .i64 r.cl, .int .i64 r.tm, .int .i64 r.kd, .int .i64 r.ky, .int .i64 r.vl, .int .i64 r.sg] 34)))
          have HNew := Lib.hid (show Has (wx.alloc (.cells #[.int .i64 r.cl, .int .i64 r.tm, .int .i64 r.kd, .int .i64 r.ky, .int .i64 r.vl, .int .i64 r.sg] 34)) (wx.heap.size + 1) (some ⟨wx.heap.size, 0, none⟩) (Rq.cells r) from Has.fresh wx #[.int .i64 r.cl, .int .i64 r.tm, .int .i64 r.kd, .int .i64 r.ky, .int .i64 r.vl, .int .i64 r.sg] 34)
          have HOne := Lib.hid (show ∀ u ∈ Rq.cells r, u.oneCell' = true from by have := reqCells_one [r]; simpa [reqCells] using this)
          have HM3 := Lib.hid (show outs.length + 1 ≤ maxLen by unfold maxLen; omega)
          have HM4 := Lib.hid (show (outs.length + 1) * 48 ≤ 140737488355328 by omega)
          have HM5 := Lib.hid (show w.heap.size ≤ (wx.alloc (.cells #[.int .i64 r.cl, .int .i64 r.tm, .int .i64 r.kd, .int .i64 r.ky, .int .i64 r.vl, .int .i64 r.sg] 34)).heap.size by have := HBx.out.low.size; simp; omega)
          obtain ⟨i0, hi0, hx0, hx1, hx2⟩ := info_parts info_req
          go_wp2_with (at_builtin; refine wpList_apps rfl (.tmp 59) (.tmp 61) 22 rfl w.heap.size 34 i0 (.agg #[.int .i64 0, .int .i64 0, .int .i64 0, .int .i64 0, .int .i64 0, .int .i64 0]) 6 48 Try.underlying22 hi0 hx0 hx1 hx2 rfl (by decide) (.slice Av i cv) _ _ rfl HOw _ (some ⟨wx.heap.size, 0, none⟩) 1 1 (Rq.cells r) rfl rfl HNew.out (fun h => nomatch h) HOne.out HM3.out HM4.out HM5.out ?_)
          intro v2 wz ho2 hg2 hl2
          have HFin := Lib.hid (show BoR w nb bm rb (i + 1) v2 wz from ⟨outs ++ [r], _, _, HBxa.out.put hg2 ho2 (hl2.imp id (fun e => by simpa using e)), HNd.out, (Nat.le_trans HLl.out (Nat.le_succ _)), by rw [List.length_append, HLo.out]; rfl, fun x hx => by
            rcases List.mem_append.1 hx with hx | hx
            · exact HFo.out x hx
            · rw [List.mem_singleton.1 hx]; exact HFr.out⟩)
          clear ho2 hg2 hl2 HOw
          go_wp2_with fail
          go_roundw
          case rel => exact ⟨i + 1, by go_num, by omega, by omega, HFin.out⟩
          case measure => simp [intOf]; omega
        · have t4 : ((i : Int) % 4 != 3) = true := by simpa using h4
          clear h4
          go_wp2_with fail
          obtain ⟨hs1, hs2⟩ := body_small HBs.out
          have HFp := Lib.hid (show fit (100 + r.cl) from fit_small (by omega) (by omega))
          have HLm := Lib.hid (show bs.length ≤ maxLen by have := body_len HBs.out; unfold maxLen; omega)
          have HL1 := Lib.hid (show L.length ≤ 1000000 by have := HLl.out; omega)
          have HAd := Lib.hid (show ∀ ad, A1 = some ad → gB < ad.block from fun ad e => by
            have := (ho.lt ad.block (by rw [e]; rfl)).1
            rw [HGb.out] at this
            omega)
          have HHs := Lib.hid (Has.own ho)
          obtain ⟨d, hd⟩ : ∃ d, ((100 + r.cl, strOfNums bs) : Deed) = d := ⟨_, rfl⟩
          have HSl := Lib.hid (seal_any HBb.out.nt HL1.out HFp.out (c := c1) HHs.out rfl HLm.out)
          rw [hd] at HSl
          have HD := Lib.hid hd
          have h64 : wrap64 (100 + r.cl) = 100 + r.cl := by unfold wrap64; omega
          clear ho hd
          go_wp2_with fail
          rw [h64]
          (with_reducible refine HSl.out.mono ?_)
          rintro e wc ⟨rfl, hNc, htc⟩
          obtain ⟨sl, hsl⟩ : ∃ sl, sealS L d = sl := ⟨_, rfl⟩
          have HFs := Lib.hid (show fit sl from by
            rw [← hsl]
            unfold sealS
            have h1 : idx L d ≤ L.length := by
              by_cases hm : d ∈ L
              · exact Nat.le_of_lt (idx_lt hm)
              · rw [idx_not hm]; exact Nat.le_refl _
            have := HL1.out
            exact fit_small (by omega) (by omega))
          rw [hsl]
          have HBc := Lib.hid (HBb.out.seal htc hNc)
          have hgbm : gB ≠ bm := by have := HGlt.out.2; omega
          have hblk := htc.blk HBox.out hgbm
          have HHc := Lib.hid (has_apart HHs.out htc (fun ad e _ => by have := HAd.out ad e; have := HGlt.out.2; omega))
          have e0 := hblk.cell 0
          have e5 := hblk.cell 5
          have f5 := hblk.frozen 5
          have HBoxc := Lib.hid hblk
          simp only [List.getElem?_toArray, List.getElem?_cons_zero, List.getElem?_cons_succ] at e0 e5
          clear hsl hNc htc hblk d0 d1 d2 d3 d4 d5
          go_wp2_with fail
          have HBoxd := Lib.hid (HBoxc.out.set_ 5 (.int .i64 sl))
          have htd : Turn (fun k => k = gB) wc (wc.setCell ⟨gB, 5, none⟩ (.int .i64 sl)) := (Turn.refl _ wc).set_ _ _ rfl
          have HBd := Lib.hid (HBc.out.turn htd (fun k _ hk => by
            subst hk
            exact ⟨fun hr => by have := (HZone.out _ hr); omega, by have := HGlt.out.1; omega, by have := HGlt.out.2; omega, fun e => by have := HVlt.out _ e; omega, HGw.out⟩))
          have HHd := Lib.hid (has_apart HHc.out htd (fun ad e _ => by have := HAd.out ad e; omega))
          obtain ⟨wd, hwd⟩ : ∃ wd, wc.setCell ⟨gB, 5, none⟩ (.int .i64 sl) = wd := ⟨_, rfl⟩
          rw [hwd] at HBoxd HBd HHd ⊢
          have HRs := Lib.hid (rseal_at HBd.out.rf HL1.out (c := c1) (p := 100 + r.cl) HHd.out rfl (fun ad e _ hr => by have := HAd.out ad e; have := HZone.out _ hr; omega))
          rw [HD.out] at HRs
          clear hwd htd e0 e5 f5
          first | rw [h64] | skip
          (with_reducible refine HRs.out.mono ?_)
          rintro e we ⟨rfl, hRe, hte⟩
          obtain ⟨R', hBe⟩ := HBd.out.rseal hte hRe
          have hblk := hte.blk HBoxd.out (fun hr => by have := HZone.out _ hr; omega)
          have d0 := hblk.cell 0
          have d1 := hblk.cell 1
          have d2 := hblk.cell 2
          have d3 := hblk.cell 3
          have d4 := hblk.cell 4
          have d5 := hblk.cell 5
          simp only [Array.setIfInBounds, List.size_toArray, List.length_cons, List.length_nil, Nat.reduceAdd, Nat.reduceLT, dite_true, List.getElem?_toArray, List.getElem?_cons_zero, List.getElem?_cons_succ, Array.set, List.set_cons_succ, List.set_cons_zero] at d0 d1 d2 d3 d4 d5
          clear hRe hte hblk
          obtain ⟨wx, hwx⟩ : ∃ wx, we = wx := ⟨_, rfl⟩
          have HBx := Lib.hid (hwx ▸ hBe)
          rw [hwx] at d0 d1 d2 d3 d4 d5 ⊢
          clear hwx hBe
          have HOw := HBx.out.own.alloc (.cells #[.int .i64 r.cl, .int .i64 r.tm, .int .i64 r.kd, .int .i64 r.ky, .int .i64 r.vl, .int .i64 sl] 34)
          have HBxa := Lib.hid (HBx.out.below ((Below.refl _ wx).alloc (Nat.le_refl _) (.cells #[.int .i64 r.cl, .int .i64 r.tm, .int .i64 r.kd, .int .i64 r.ky, .int .i64 r.vl, .int .i64 sl] 34)))
          have HNew := Lib.hid (show Has (wx.alloc (.cells #[.int .i64 r.cl, .int .i64 r.tm, .int .i64 r.kd, .int .i64 r.ky, .int .i64 r.vl, .int .i64 sl] 34)) (wx.heap.size + 1) (some ⟨wx.heap.size, 0, none⟩) (Rq.cells (r.with sl)) from Has.fresh wx #[.int .i64 r.cl, .int .i64 r.tm, .int .i64 r.kd, .int .i64 r.ky, .int .i64 r.vl, .int .i64 sl] 34)
          have HOne := Lib.hid (show ∀ u ∈ Rq.cells (r.with sl), u.oneCell' = true from by have := reqCells_one [(r.with sl)]; simpa [reqCells] using this)
          have HM3 := Lib.hid (show outs.length + 1 ≤ maxLen by unfold maxLen; omega)
          have HM4 := Lib.hid (show (outs.length + 1) * 48 ≤ 140737488355328 by omega)
          have HM5 := Lib.hid (show w.heap.size ≤ (wx.alloc (.cells #[.int .i64 r.cl, .int .i64 r.tm, .int .i64 r.kd, .int .i64 r.ky, .int .i64 r.vl, .int .i64 sl] 34)).heap.size by have := HBx.out.low.size; simp; omega)
          obtain ⟨i0, hi0, hx0, hx1, hx2⟩ := info_parts info_req
          go_wp2_with (at_builtin; refine wpList_apps rfl (.tmp 59) (.tmp 61) 22 rfl w.heap.size 34 i0 (.agg #[.int .i64 0, .int .i64 0, .int .i64 0, .int .i64 0, .int .i64 0, .int .i64 0]) 6 48 Try.underlying22 hi0 hx0 hx1 hx2 rfl (by decide) (.slice Av i cv) _ _ rfl HOw _ (some ⟨wx.heap.size, 0, none⟩) 1 1 (Rq.cells (r.with sl)) rfl rfl HNew.out (fun h => nomatch h) HOne.out HM3.out HM4.out HM5.out ?_)
          intro v2 wz ho2 hg2 hl2
          have HFin := Lib.hid (show BoR w nb bm rb (i + 1) v2 wz from ⟨outs ++ [(r.with sl)], _, _, HBxa.out.put hg2 ho2 (hl2.imp id (fun e => by simpa using e)), sealed_nodup HNd.out _, Nat.le_trans (sealed_len L d) (Nat.succ_le_succ HLl.out), by rw [List.length_append, HLo.out]; rfl, fun x hx => by
            rcases List.mem_append.1 hx with hx | hx
            · exact HFo.out x hx
            · rw [List.mem_singleton.1 hx]; exact fits_with HFr.out sl HFs.out⟩)
          clear ho2 hg2 hl2 HOw
          go_wp2_with fail
          go_roundw
          case rel => exact ⟨i + 1, by go_num, by omega, by omega, HFin.out⟩
          case measure => simp [intOf]; omega
      · clear hno
        obtain ⟨wx, hwx⟩ : ∃ wx, wb = wx := ⟨_, rfl⟩
        have HBx := Lib.hid (hwx ▸ HBb.out)
        rw [hwx] at d0 d1 d2 d3 d4 d5 ⊢
        clear hwx
        have HOw := HBx.out.own.alloc (.cells #[.int .i64 r.cl, .int .i64 r.tm, .int .i64 r.kd, .int .i64 r.ky, .int .i64 r.vl, .int .i64 r.sg] 34)
        have HBxa := Lib.hid (HBx.out.below ((Below.refl _ wx).alloc (Nat.le_refl _) (.cells #[.int .i64 r.cl, .int .i64 r.tm, .int .i64 r.kd, .int .i64 r.ky, .int .i64 r.vl, .int .i64 r.sg] 34)))
        have HNew := Lib.hid (show Has (wx.alloc (.cells #[.int .i64 r.cl, .int .i64 r.tm, .int .i64 r.kd, .int .i64 r.ky, .int .i64 r.vl, .int .i64 r.sg] 34)) (wx.heap.size + 1) (some ⟨wx.heap.size, 0, none⟩) (Rq.cells r) from Has.fresh wx #[.int .i64 r.cl, .int .i64 r.tm, .int .i64 r.kd, .int .i64 r.ky, .int .i64 r.vl, .int .i64 r.sg] 34)
        have HOne := Lib.hid (show ∀ u ∈ Rq.cells r, u.oneCell' = true from by have := reqCells_one [r]; simpa [reqCells] using this)
        have HM3 := Lib.hid (show outs.length + 1 ≤ maxLen by unfold maxLen; omega)
        have HM4 := Lib.hid (show (outs.length + 1) * 48 ≤ 140737488355328 by omega)
        have HM5 := Lib.hid (show w.heap.size ≤ (wx.alloc (.cells #[.int .i64 r.cl, .int .i64 r.tm, .int .i64 r.kd, .int .i64 r.ky, .int .i64 r.vl, .int .i64 r.sg] 34)).heap.size by have := HBx.out.low.size; simp; omega)
        obtain ⟨i0, hi0, hx0, hx1, hx2⟩ := info_parts info_req
        go_wp2_with (at_builtin; refine wpList_apps rfl (.tmp 59) (.tmp 61) 22 rfl w.heap.size 34 i0 (.agg #[.int .i64 0, .int .i64 0, .int .i64 0, .int .i64 0, .int .i64 0, .int .i64 0]) 6 48 Try.underlying22 hi0 hx0 hx1 hx2 rfl (by decide) (.slice Av i cv) _ _ rfl HOw _ (some ⟨wx.heap.size, 0, none⟩) 1 1 (Rq.cells r) rfl rfl HNew.out (fun h => nomatch h) HOne.out HM3.out HM4.out HM5.out ?_)
        intro v2 wz ho2 hg2 hl2
        have HFin := Lib.hid (show BoR w nb bm rb (i + 1) v2 wz from ⟨outs ++ [r], _, _, HBxa.out.put hg2 ho2 (hl2.imp id (fun e => by simpa using e)), HNd.out, (Nat.le_trans HLl.out (Nat.le_succ _)), by rw [List.length_append, HLo.out]; rfl, fun x hx => by
          rcases List.mem_append.1 hx with hx | hx
          · exact HFo.out x hx
          · rw [List.mem_singleton.1 hx]; exact HFr.out⟩)
        clear ho2 hg2 hl2 HOw
        go_wp2_with fail
        go_roundw
        case rel => exact ⟨i + 1, by go_num, by omega, by omega, HFin.out⟩
        case measure => simp [intOf]; omega
    · have hor : zs.length ≤ i ∨ (i < zs.length ∧ 30 ≤ i) := by omega
      obtain ⟨outs, L, R, hBo, hnd, hLl, hLo, hFo⟩ := HR.out.ex
      have HFin := Lib.hid (show ∀ e, e = Ending.returned (.tuple #[_, .pointer (some ⟨nb, 0, none⟩), .pointer (some ⟨rb, 0, none⟩)]) → BothPost w e wr from fun e he => ⟨outs, L, nb, bm, rb, _, R, he, hBo, hnd, by omega, by omega, hFo⟩)
      clear hBo hnd hLl hLo hFo hlt
      rcases hor with hq | ⟨hq1, hq2⟩
      all_goals
        go_wp2_with fail
        go_ret3
        exact HFin.out _ rfl
end Go.Proofs.Ytdopgdaobpcbjaa
