/- The contract of keep.Parts: whether two lists of parts are the same. -/
import Derived.Test.YtbegjadohamkkaaGreatOSameCerts
import Derived.Deep.RegionHeld3
namespace Go.Proofs.YtbegjadohamkkaaGreat
open Go.RowKit

def smallPart (p : Pt) : Prop := p.vs.length ≤ 9223372036854775806 ∧ p.cs.length ≤ 9223372036854775806 ∧ ∀ x ∈ p.cs, smallCert x
set_option maxHeartbeats 1000000 in
set_option maxRecDepth 100000 in
theorem same_parts (A A' : Option Addr) (c c' : Nat) (zs ys : List Pt) (B : Nat) (w : World) (hl : zs.length ≤ 9223372036854775806) (h1 : HasParts w B A zs) (h2 : HasParts w B A' ys) (hB : B ≤ w.heap.size) (hs : ∀ x ∈ zs, smallPart x) :
    Calls Tryz.prog 61 #[.slice A zs.length c, .slice A' ys.length c'] w fun e w' => e = .returned (.bool (sameL zs ys)) ∧ Below w.heap.size w w' := by
  have H1 := Lib.hid h1
  have H2 := Lib.hid h2
  have HS := Lib.hid hs
  clear h1 h2 hs
  by_cases hlen : zs.length = ys.length
  · have HL := Lib.hid hlen
    go_enter Tryz.func61, Tryz.ntmps61
    go_wp2
    clear hlen
    go_loopw [5] (fun x wr => ∃ (k : Nat), x = .int .i64 k ∧ k ≤ zs.length ∧ Below w.heap.size w wr ∧ Hid (zs.take k = ys.take k)) (fun x _ => zs.length - (intOf x).toNat)
    case atStart => exact ⟨0, rfl, Nat.zero_le _, Below.refl _ _, rfl⟩
    case round =>
      obtain ⟨k, rfl, hk, hb, HT⟩ := hrel
      by_cases hlt : k < zs.length
      · have hlt2 : k < ys.length := by rw [← HL.out]; exact hlt
        obtain ⟨a1, x, rfl, l1, hx, ix, c0, c1, c2, c3⟩ := (H1.out.reads (Reads.below hb hB)).at hlt
        obtain ⟨a2, y, rfl, l2, hy, iy, d0, d1, d2, d3⟩ := (H2.out.reads (Reads.below hb hB)).at hlt2
        have HX := Lib.hid hx
        have HY := Lib.hid hy
        have HIX := Lib.hid ix
        have HIY := Lib.hid iy
        have hbs := hb.size
        have hsm := HS.out _ (List.getElem_mem hlt)
        rw [← hx] at hsm
        obtain ⟨hs1, hs2, hs3⟩ := hsm
        have HS3 := Lib.hid hs3
        have hxy : (x.p = y.p) = (zs[k] = ys[k]) := by rw [hx, hy]
        have HXY := Lib.hid hxy
        clear hx hy ix iy hs3 hxy
        by_cases t1 : x.p.fr = y.p.fr
        · by_cases t2 : x.p.sg = y.p.sg
          · have b1 : (x.p.fr != y.p.fr) = false := by simpa using t1
            have b2 : (x.p.sg != y.p.sg) = false := by simpa using t2
            have HE := Lib.hid (show (decide (x.p = y.p)) = (sameL x.p.vs y.p.vs && sameL x.p.cs y.p.cs) by
              rcases x with ⟨⟨a, b, c, d⟩, _⟩
              rcases y with ⟨⟨a', b', c', d'⟩, _⟩
              simp only at t1 t2
              subst t1; subst t2
              simp [sameL])
            clear t1 t2
            obtain ⟨r1, hr1⟩ : ∃ r, sameL x.p.vs y.p.vs = r := ⟨_, rfl⟩
            have HR1 := Lib.hid hr1
            cases r1
            · have HF := Lib.hid (sameL_far hlt hlt2 (by show ¬ (zs[k] = ys[k]); rw [← HXY.out]; exact decide_eq_false_iff_not.1 (by rw [HE.out, hr1]; rfl)))
              clear hr1
              go_wp2
              go_quiet ((go_at_call 59; exact Calls.quiet_of (same_votes_is rfl rfl hs1 HR1.out _ (HIX.out.vs.drewN _) (HIY.out.vs.drewN _))))
              go_wp2
              go_ret
              exact ⟨by rw [HF.out]; rfl, below_drewN hb _⟩
            · obtain ⟨r2, hr2⟩ : ∃ r, sameL x.p.cs y.p.cs = r := ⟨_, rfl⟩
              have HR2 := Lib.hid hr2
              clear hr1 hr2
              have HBS : B ≤ wr.heap.size := by omega
              have L1 : a1.block < wr.heap.size := by omega
              have L2 : a2.block < wr.heap.size := by omega
              go_wp2
              go_region_held3 (fun w' => w'.cell? (a1.add (k * 4)) = some (.int .i64 x.p.fr) ∧ w'.cell? ⟨(a1.add (k * 4)).block, (a1.add (k * 4)).off + 1, none⟩ = some (.slice x.A1 x.p.vs.length x.c1) ∧
                  w'.cell? ⟨(a1.add (k * 4)).block, (a1.add (k * 4)).off + 2, none⟩ = some (.slice x.A2 x.p.cs.length x.c2) ∧ w'.cell? ⟨(a1.add (k * 4)).block, (a1.add (k * 4)).off + 3, none⟩ = some (.int .i64 x.p.sg) ∧
                  w'.cell? (a2.add (k * 4)) = some (.int .i64 y.p.fr) ∧ w'.cell? ⟨(a2.add (k * 4)).block, (a2.add (k * 4)).off + 1, none⟩ = some (.slice y.A1 y.p.vs.length y.c1) ∧
                  w'.cell? ⟨(a2.add (k * 4)).block, (a2.add (k * 4)).off + 2, none⟩ = some (.slice y.A2 y.p.cs.length y.c2) ∧ w'.cell? ⟨(a2.add (k * 4)).block, (a2.add (k * 4)).off + 3, none⟩ = some (.int .i64 y.p.sg)) (go_keep)
                (first | (go_at_call 59; refine (same_votes_is rfl rfl hs1 HR1.out _ (HIX.out.vs.drew) (HIY.out.vs.drew)).mono ?_; rintro e w2 ⟨rfl, nq, rfl⟩)
                       | (go_at_call 60; refine (same_certs_is rfl rfl hs2 HR2.out HS3.out (wr.drewN (1 + nq)) HBS (HIX.out.cs.reads (fun _ _ h => h)) (HIY.out.cs.reads (fun _ _ h => h))).mono ?_; rintro e w3 ⟨rfl, hb3⟩; have q00 := (hb3.cell (p := a1.add (k * 4)) (by show (a1.add (k * 4)).block < _; rw [addr_block]; exact L1)).trans c0; have q01 := (hb3.cell (p := ⟨(a1.add (k * 4)).block, (a1.add (k * 4)).off + 1, none⟩) (by show (a1.add (k * 4)).block < _; rw [addr_block]; exact L1)).trans c1; have q02 := (hb3.cell (p := ⟨(a1.add (k * 4)).block, (a1.add (k * 4)).off + 2, none⟩) (by show (a1.add (k * 4)).block < _; rw [addr_block]; exact L1)).trans c2; have q03 := (hb3.cell (p := ⟨(a1.add (k * 4)).block, (a1.add (k * 4)).off + 3, none⟩) (by show (a1.add (k * 4)).block < _; rw [addr_block]; exact L1)).trans c3; have q10 := (hb3.cell (p := a2.add (k * 4)) (by show (a2.add (k * 4)).block < _; rw [addr_block]; exact L2)).trans d0; have q11 := (hb3.cell (p := ⟨(a2.add (k * 4)).block, (a2.add (k * 4)).off + 1, none⟩) (by show (a2.add (k * 4)).block < _; rw [addr_block]; exact L2)).trans d1; have q12 := (hb3.cell (p := ⟨(a2.add (k * 4)).block, (a2.add (k * 4)).off + 2, none⟩) (by show (a2.add (k * 4)).block < _; rw [addr_block]; exact L2)).trans d2; have q13 := (hb3.cell (p := ⟨(a2.add (k * 4)).block, (a2.add (k * 4)).off + 3, none⟩) (by show (a2.add (k * 4)).block < _; rw [addr_block]; exact L2)).trans d3))
              have hb4 := (below_drewN hb (1 + nq)).trans (hb3.mono hb.size)
              clear q00 q01 q02 q03 q10 q11 q12 q13
              cases r2
              · have HF := Lib.hid (sameL_far hlt hlt2 (by show ¬ (zs[k] = ys[k]); rw [← HXY.out]; exact decide_eq_false_iff_not.1 (by rw [HE.out, HR1.out, HR2.out]; rfl)))
                go_wp2
                go_ret
                exact ⟨by rw [HF.out]; rfl, hb4⟩
              · have HF := Lib.hid (takeL_next hlt hlt2 HT.out (by rw [← HXY.out]; exact decide_eq_true_iff.1 (by rw [HE.out, HR1.out, HR2.out]; rfl)))
                go_wp2
                go_roundw
                case rel => exact ⟨k + 1, by go_num, by omega, hb4, HF.out⟩
                case measure => simp [intOf]; omega
          · have b1 : (x.p.fr != y.p.fr) = false := by simpa using t1
            have b2 : (x.p.sg != y.p.sg) = true := by simpa using t2
            have HF := Lib.hid (sameL_far hlt hlt2 (by show ¬ (zs[k] = ys[k]); rw [← HXY.out]; exact fun h => t2 (by rw [h])))
            clear t1 t2
            go_wp2
            go_quiet (fail)
            go_wp2
            go_ret
            exact ⟨by rw [HF.out]; rfl, below_drewN hb _⟩
        · have b1 : (x.p.fr != y.p.fr) = true := by simpa using t1
          have HF := Lib.hid (sameL_far hlt hlt2 (by show ¬ (zs[k] = ys[k]); rw [← HXY.out]; exact fun h => t1 (by rw [h])))
          clear t1
          go_wp2
          go_quiet (fail)
          go_wp2
          go_ret
          exact ⟨by rw [HF.out]; rfl, below_drewN hb _⟩
      · have HS := Lib.hid (sameL_end (by omega : zs.length ≤ k) HT.out HL.out)
        go_wp2
        go_ret
        exact ⟨by rw [HS.out]; rfl, hb⟩
  · have HS := Lib.hid (sameL_len hlen)
    have hb : decide (zs.length = ys.length) = false := by simpa using hlen
    have hb2 : ((zs.length : Int) != ys.length) = true := by simp; omega
    go_enter Tryz.func61, Tryz.ntmps61
    go_wp2
    go_ret
    exact ⟨by rw [HS.out]; rfl, Below.refl _ _⟩
end Go.Proofs.YtbegjadohamkkaaGreat
