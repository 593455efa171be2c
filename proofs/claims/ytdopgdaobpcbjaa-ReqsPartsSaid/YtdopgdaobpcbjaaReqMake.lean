/- The contract of reqs.Make. -/
import Derived.Test.YtdopgdaobpcbjaaReqSeal
import Derived.Deep.MidRow
namespace Go.Proofs.Ytdopgdaobpcbjaa
open Go.RowKit

theorem blk6 {w : World} {g t : Nat} {a0 a1 a2 a3 a4 a5 : Value} (h : Blk w g t #[a0, a1, a2, a3, a4, a5]) (b0 b1 b2 b3 b4 b5 : Value) : Blk (w.setCells g 0 [b0, b1, b2, b3, b4, b5]) g t #[b0, b1, b2, b3, b4, b5] :=
  (((((h.set_ 0 b0).set_ 1 b1).set_ 2 b2).set_ 3 b3).set_ 4 b4).set_ 5 b5
theorem there6 {w : World} {g : Nat} {t : TypeId} {a0 a1 a2 a3 a4 a5 : Value} (h : Blk w g t #[a0, a1, a2, a3, a4, a5]) : w.there g 0 6 := fun j hj => by
  rw [Nat.zero_add]
  refine ⟨?_, h.frozen j⟩
  rw [h.cell j, Array.getElem?_eq_getElem (show j < _ by simpa using hj)]
  rfl
theorem size6 : (Try.prog.info? 34).map (·.size) = some 6 := by kernel_rfl
theorem one6 (a b c d e f : Int) : (#[.int .i64 a, .int .i64 b, .int .i64 c, .int .i64 d, .int .i64 e, .int .i64 f] : Array Value).all (·.oneCell') = true := all_oneCell_toArray (cs := [.int .i64 a, .int .i64 b, .int .i64 c, .int .i64 d, .int .i64 e, .int .i64 f]) (by intro v hv; simp at hv; rcases hv with rfl | rfl | rfl | rfl | rfl | rfl <;> rfl)
theorem turn6 {Z : Nat → Prop} {a b : World} {g : Nat} (h : Turn Z a b) (hz : Z g) (b0 b1 b2 b3 b4 b5 : Value) : Turn Z a (b.setCells g 0 [b0, b1, b2, b3, b4, b5]) :=
  (((((h.set_ ⟨g, 0, none⟩ b0 hz).set_ ⟨g, 1, none⟩ b1 hz).set_ ⟨g, 2, none⟩ b2 hz).set_ ⟨g, 3, none⟩ b3 hz).set_ ⟨g, 4, none⟩ b4 hz).set_ ⟨g, 5, none⟩ b5 hz
set_option maxHeartbeats 2000000 in
set_option maxRecDepth 100000 in
theorem rq_make {w : World} {nb bm : Nat} {L : List Deed} (h : Nt w nb bm L) (hlen : L.length ≤ 999999) (r : Rq) (hs0 : r.sg = 0) (n : Int) (hn : n ≤ 1073741824) :
    Calls Try.prog 27 #[.pointer (some ⟨nb, 0, none⟩), .int .i64 n, .int .i64 r.cl, .int .i64 r.tm, .agg #[.int .i64 r.kd, .int .i64 r.ky, .int .i64 r.vl]] w (MakePost r n L nb bm w) := by
  have HR := Lib.hid h
  have HL := Lib.hid hlen
  have HV := Lib.hid (fun w => rq_valid r n w)
  rw [hs0] at HV
  have HS0 := Lib.hid hs0
  have HNn := Lib.hid hn
  clear h hlen hs0 hn
  have HB1 := Lib.hid (show Below w.heap.size w (((w.alloc (.cells #[.int .i64 r.kd, .int .i64 r.ky, .int .i64 r.vl] 32)).alloc (.cells #[.int .i64 0, .int .i64 0, .int .i64 0, .int .i64 0, .int .i64 0, .int .i64 0] 34)).alloc (.cells #[.int .i64 r.cl, .int .i64 r.tm, .int .i64 r.kd, .int .i64 r.ky, .int .i64 r.vl, .int .i64 0] 34)) from (((Below.refl _ _).alloc (Nat.le_refl _) _).alloc (by simp) _).alloc (by simp; omega) _)
  have HZ1 := Lib.hid (show Blk (((w.alloc (.cells #[.int .i64 r.kd, .int .i64 r.ky, .int .i64 r.vl] 32)).alloc (.cells #[.int .i64 0, .int .i64 0, .int .i64 0, .int .i64 0, .int .i64 0, .int .i64 0] 34)).alloc (.cells #[.int .i64 r.cl, .int .i64 r.tm, .int .i64 r.kd, .int .i64 r.ky, .int .i64 r.vl, .int .i64 0] 34)) (w.heap.size + 1) 34 #[.int .i64 0, .int .i64 0, .int .i64 0, .int .i64 0, .int .i64 0, .int .i64 0] from (Blk.new1 w _ _ _).alloc _)
  have HT1 := Lib.hid (show Blk (((w.alloc (.cells #[.int .i64 r.kd, .int .i64 r.ky, .int .i64 r.vl] 32)).alloc (.cells #[.int .i64 0, .int .i64 0, .int .i64 0, .int .i64 0, .int .i64 0, .int .i64 0] 34)).alloc (.cells #[.int .i64 r.cl, .int .i64 r.tm, .int .i64 r.kd, .int .i64 r.ky, .int .i64 r.vl, .int .i64 0] 34)) (w.heap.size + 1 + 1) 34 #[.int .i64 r.cl, .int .i64 r.tm, .int .i64 r.kd, .int .i64 r.ky, .int .i64 r.vl, .int .i64 0] from by
    have := Blk.new1 (w.alloc (.cells #[.int .i64 r.kd, .int .i64 r.ky, .int .i64 r.vl] 32)) (.cells #[.int .i64 0, .int .i64 0, .int .i64 0, .int .i64 0, .int .i64 0, .int .i64 0] 34) 34 #[.int .i64 r.cl, .int .i64 r.tm, .int .i64 r.kd, .int .i64 r.ky, .int .i64 r.vl, .int .i64 0]
    simpa using this)
  go_enter Try.func27, Try.ntmps27
  go_wp2_with fail
  obtain ⟨w1, hw1⟩ : ∃ w1, (((w.alloc (.cells #[.int .i64 r.kd, .int .i64 r.ky, .int .i64 r.vl] 32)).alloc (.cells #[.int .i64 0, .int .i64 0, .int .i64 0, .int .i64 0, .int .i64 0, .int .i64 0] 34)).alloc (.cells #[.int .i64 r.cl, .int .i64 r.tm, .int .i64 r.kd, .int .i64 r.ky, .int .i64 r.vl, .int .i64 0] 34)) = w1 := ⟨_, rfl⟩
  rw [hw1] at HB1 HZ1 HT1 ⊢
  obtain ⟨gr, hgr⟩ : ∃ gr, w.heap.size + 1 = gr := ⟨_, rfl⟩
  obtain ⟨gt, hgt⟩ : ∃ gt, w.heap.size + 1 + 1 = gt := ⟨_, rfl⟩
  rw [hgt] at HT1 ⊢
  rw [hgr] at HZ1 ⊢
  have HG := Lib.hid (show w.heap.size < gr ∧ gr < gt by omega)
  have HN1 := Lib.hid (HR.out.below HB1.out)
  clear hw1 hgr hgt
  cases hv : validS r n
  · rw [hv] at HV
    have HVf := Lib.hid hv
    clear hv
    refine (HV.out _).mono ?_
    rintro e w2 ⟨rfl, hb2⟩
    have HB2 := Lib.hid (HB1.out.trans (hb2.mono HB1.out.size))
    have hz2 := HZ1.out.below hb2 HZ1.out.lt
    have HTh := Lib.hid (there6 hz2)
    obtain ⟨w3, hw3⟩ : ∃ w3, w2.setCells gr 0 [.int .i64 0, .int .i64 0, .int .i64 0, .int .i64 0, .int .i64 0, .int .i64 0] = w3 := ⟨_, rfl⟩
    have hblk3 : Blk w3 gr 34 #[.int .i64 0, .int .i64 0, .int .i64 0, .int .i64 0, .int .i64 0, .int .i64 0] := by rw [← hw3]; exact blk6 hz2 _ _ _ _ _ _
    have HP := Lib.hid (show MakePost r n L nb bm w (.returned (.tuple #[.agg #[.int .i64 0, .int .i64 0, .int .i64 0, .int .i64 0, .int .i64 0, .int .i64 0], .int .i64 1])) w3 from by
      have ht : Turn (fun k => k = gr) w2 w3 := by rw [← hw3]; exact turn6 (Z := fun k => k = gr) (Turn.refl _ _) rfl _ _ _ _ _ _
      have hlt := HR.out.lt
      have hg := HG.out
      exact Or.inr ⟨HVf.out, rfl, (HR.out.below HB2.out).kept ht (by omega) (by omega), HB2.out.trans (ht.below HB2.out.size (fun k hk e => by omega))⟩)
    have HW3 := Lib.hid hw3
    have de0 : w3.cell? ⟨gr, 0, none⟩ = some (.int .i64 0) := hblk3.cell 0
    have de1 : w3.cell? ⟨gr, 1, none⟩ = some (.int .i64 0) := hblk3.cell 1
    have de2 : w3.cell? ⟨gr, 2, none⟩ = some (.int .i64 0) := hblk3.cell 2
    have de3 : w3.cell? ⟨gr, 3, none⟩ = some (.int .i64 0) := hblk3.cell 3
    have de4 : w3.cell? ⟨gr, 4, none⟩ = some (.int .i64 0) := hblk3.cell 4
    have de5 : w3.cell? ⟨gr, 5, none⟩ = some (.int .i64 0) := hblk3.cell 5
    clear hw3 hz2 hblk3 hb2
    go_wp2_with (refine wpList_store_mid rfl 34 (.tmp 10) (.tmp 23) rfl gr 0 #[.int .i64 0, .int .i64 0, .int .i64 0, .int .i64 0, .int .i64 0, .int .i64 0] rfl rfl HTh.out size6 (one6 _ _ _ _ _ _) ?_; rw [HW3.out])
    exact bodyPost_ret (v := .tuple #[.agg #[.int .i64 0, .int .i64 0, .int .i64 0, .int .i64 0, .int .i64 0, .int .i64 0], .int .i64 1]) (by simp [results, Try.results27, go_sem, de0, de1, de2, de3, de4, de5]) rfl HP.out
  · rw [hv] at HV
    have HVt := Lib.hid hv
    obtain ⟨bs, hbs⟩ := valid_body hv (by have h1 := of_decide_eq_true hv; have h2 := HNn.out; omega)
    have HBs := Lib.hid hbs
    clear hv hbs
    refine (HV.out _).mono ?_
    rintro e w2 ⟨rfl, hb2⟩
    have HB2 := Lib.hid (HB1.out.trans (hb2.mono HB1.out.size))
    have hx2 := HT1.out.below hb2 HT1.out.lt
    have HT2 := Lib.hid hx2
    have HZ2 := Lib.hid (HZ1.out.below hb2 HZ1.out.lt)
    have d0 := hx2.cell 0
    have d1 := hx2.cell 1
    have d2 := hx2.cell 2
    have d3 := hx2.cell 3
    have d4 := hx2.cell 4
    have d5 := hx2.cell 5
    simp only [List.getElem?_toArray, List.getElem?_cons_zero, List.getElem?_cons_succ] at d0 d1 d2 d3 d4 d5
    clear hb2 hx2
    go_wp2_with fail
    refine (rq_body r.bare _).mono ?_
    rintro e w3 hp
    have HB3 := Lib.hid (HB2.out.trans (hp.1.mono HB2.out.size))
    have hx3 := HT2.out.below hp.1 HT2.out.lt
    have HT3 := Lib.hid hx3
    have HZ3 := Lib.hid (HZ2.out.below hp.1 HZ2.out.lt)
    have e0 := hx3.cell 0
    simp only [List.getElem?_toArray, List.getElem?_cons_zero] at e0
    clear hx3 d0 d1 d2 d3 d4 d5
    rcases hp with ⟨_, ⟨bs', A, c, hbs', rfl, ho⟩ | ⟨hno, rfl⟩⟩
    · have hbb : bytesOf r.bare.toks = some bs' := hbs'
      have hbe : bs = bs' := Option.some.inj ((show bytesOf r.bare.toks = some bs from HBs.out).symm.trans hbb)
      subst hbe
      clear hbs' hbb
      have hw64 := (party_small HBs.out).2
      have KP := Lib.hid (fun w => rq_party r.cl hw64 w)
      have KS := Lib.hid (seal_any (HR.out.below HB3.out) (by have := HL.out; omega) (p := 100 + r.cl) (c := c) (party_small HBs.out).1 (Has.own ho) rfl (by have := body_len HBs.out; unfold maxLen; omega))
      clear ho
      go_wp2_with fail
      refine (KP.out _).mono ?_
      rintro e w' ⟨rfl, rfl⟩
      go_wp2_with fail
      refine KS.out.mono ?_
      rintro e w4 ⟨rfl, hN4, ht4⟩
      obtain ⟨s, hs⟩ : ∃ s, sealS L (100 + r.cl, strOfNums bs) = s := ⟨_, rfl⟩
      rw [hs]
      have HSs := Lib.hid hs
      have HN4 := Lib.hid hN4
      have HTn := Lib.hid ht4
      have hlt := HR.out.lt
      have hg := HG.out
      have hx4 := ht4.blk HT3.out (by omega)
      have hz4 := ht4.blk HZ3.out (by omega)
      clear hs hN4 ht4
      have d0 := hx4.cell 0
      have d1 := hx4.cell 1
      have d2 := hx4.cell 2
      have d3 := hx4.cell 3
      have d4 := hx4.cell 4
      have d5 := hx4.cell 5
      have f5 := hx4.frozen 5
      simp only [List.getElem?_toArray, List.getElem?_cons_zero, List.getElem?_cons_succ] at d0 d1 d2 d3 d4 d5
      have hz5 := hz4.far (p := ⟨gt, 5, none⟩) (show gr ≠ gt by omega) (.int .i64 s)
      have HTh := Lib.hid (there6 hz5)
      obtain ⟨w6, hw6⟩ : ∃ w6, (w4.setCell ⟨gt, 5, none⟩ (.int .i64 s)).setCells gr 0 [.int .i64 r.cl, .int .i64 r.tm, .int .i64 r.kd, .int .i64 r.ky, .int .i64 r.vl, .int .i64 s] = w6 := ⟨_, rfl⟩
      have hblk6 : Blk w6 gr 34 #[.int .i64 r.cl, .int .i64 r.tm, .int .i64 r.kd, .int .i64 r.ky, .int .i64 r.vl, .int .i64 s] := by rw [← hw6]; exact blk6 hz5 _ _ _ _ _ _
      have HP := Lib.hid (show MakePost r n L nb bm w (.returned (.tuple #[.agg #[.int .i64 r.cl, .int .i64 r.tm, .int .i64 r.kd, .int .i64 r.ky, .int .i64 r.vl, .int .i64 s], .int .i64 0])) w6 from by
        have t1 : Turn (fun k => k = gr ∨ k = gt) w4 w6 := by rw [← hw6]; exact turn6 ((Turn.refl _ _).set_ _ _ (Or.inr rfl)) (Or.inl rfl) _ _ _ _ _ _
        have t2 : Turn (fun k => k = bm ∨ w.heap.size ≤ k) w w6 := ((Turn.of_below HB3.out).trans (HTn.out.mono fun k _ hk => Or.inl hk)).trans (t1.mono fun k _ hk => Or.inr (by omega))
        refine Or.inl ⟨HVt.out, bs, HBs.out, by rw [HSs.out], HN4.out.kept t1 (by omega) (by omega), t2.mono fun k hk hz => by omega⟩)
      have HW6 := Lib.hid hw6
      have de0 : w6.cell? ⟨gr, 0, none⟩ = some (.int .i64 r.cl) := hblk6.cell 0
      have de1 : w6.cell? ⟨gr, 1, none⟩ = some (.int .i64 r.tm) := hblk6.cell 1
      have de2 : w6.cell? ⟨gr, 2, none⟩ = some (.int .i64 r.kd) := hblk6.cell 2
      have de3 : w6.cell? ⟨gr, 3, none⟩ = some (.int .i64 r.ky) := hblk6.cell 3
      have de4 : w6.cell? ⟨gr, 4, none⟩ = some (.int .i64 r.vl) := hblk6.cell 4
      have de5 : w6.cell? ⟨gr, 5, none⟩ = some (.int .i64 s) := hblk6.cell 5
      clear hw6 hz5 hz4 hx4 hblk6 hlt hg
      go_wp2_with (refine wpList_store_mid rfl 34 (.tmp 10) (.tmp 38) rfl gr 0 #[.int .i64 r.cl, .int .i64 r.tm, .int .i64 r.kd, .int .i64 r.ky, .int .i64 r.vl, .int .i64 s] rfl rfl HTh.out size6 (one6 _ _ _ _ _ _) ?_; rw [HW6.out])
      exact bodyPost_ret (v := .tuple #[.agg #[.int .i64 r.cl, .int .i64 r.tm, .int .i64 r.kd, .int .i64 r.ky, .int .i64 r.vl, .int .i64 s], .int .i64 0]) (by simp [results, Try.results27, go_sem, de0, de1, de2, de3, de4, de5]) rfl HP.out
    · exact absurd ((show bytesOf r.bare.toks = some bs from HBs.out).symm.trans hno) (by simp)
end Go.Proofs.Ytdopgdaobpcbjaa
