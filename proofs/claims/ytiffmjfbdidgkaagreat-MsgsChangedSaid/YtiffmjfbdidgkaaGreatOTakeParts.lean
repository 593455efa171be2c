/- The contract of pack.TakeParts. -/
import Derived.Test.YtiffmjfbdidgkaaGreatOTakeCerts
namespace Go.Proofs.YtiffmjfbdidgkaaGreat
open Go.RowKit

theorem Tryz.info112 : (Tryz.prog.info? 112).map (fun i => (i.zero, i.size, i.bytes)) = some (some (.agg #[.int .i64 0, .slice none 0 0, .slice none 0 0, .int .i64 0]), 4, 64) := by kernel_rfl
/-- What TakeParts answers. -/
def PartsTaken (zs : List Int) (i : Int) (w : World) (e : Ending) (w' : World) : Prop :=
  Below w.heap.size w w' ∧ ((∃ (l : List Pt) (k : Nat) (A : Option Addr) (c : Nat), tkParts zs i = some (l, (k : Int)) ∧ k ≤ zs.length ∧ l.length ≤ 256 ∧ e = .returned (.tuple #[.slice A l.length c, .int .i64 k, .bool true]) ∧
      OwnParts w' w.heap.size (.slice A l.length c) l) ∨
    (tkParts zs i = none ∧ e = .returned (.tuple #[.slice none 0 0, .int .i64 0, .bool false])))
/-- The frame of TakeParts. -/
def PartsFrame (B X L nx left p : Value) (a : Act) : Prop :=
  ∃ u2 u3 u6 u9 u10 u11 u12 u13 u14 u15 u16 u17 u18 u19 u20 u21 u22 u23 u24 u25 u26 u27 u28 u29 u30 u31 u32 u33 u34 u35 u36 u37 u38 u39 u40 u41 u42 u43 u44 u45 u46 u47 u48 u49 u50 u51 u52 u53 u54 u55 u56 u57 u58 u59 u60 u61 u62 u63 u64 u65 u66 u67 : Value, a = { tmps := #[B, X, u2, u3, L, nx, u6, left, p, u9, u10, u11, u12, u13, u14, u15, u16, u17, u18, u19, u20, u21, u22, u23, u24, u25, u26, u27, u28, u29, u30, u31, u32, u33, u34, u35, u36, u37, u38, u39, u40, u41, u42, u43, u44, u45, u46, u47, u48, u49, u50, u51, u52, u53, u54, u55, u56, u57, u58, u59, u60, u61, u62, u63, u64, u65, u66, u67], defers := [] }

/-- What holds at each label: 0: nothing is taken; 1: all are taken; 2: at the next thing. -/
def PartsAt (X0 : Value) (i : Int) (zs : List Int) (w : World) (l : Nat) (a : Act) (w' : World) : Prop :=
  ∃ (L : Value) (nx : Nat) (left : Int) (done : List Ps) (v0 v1 v2 v3 : Value), PartsFrame X0 (.int .i64 i) L (.int .i64 nx) (.int .i64 left) (.pointer (some ⟨w.heap.size, 0, none⟩)) a ∧ nx ≤ zs.length ∧
    Tkg 112 4 w w' L done.length (done.flatMap Ps.cells) #[v0, v1, v2, v3] ∧ (∀ x ∈ done, x.Own w' (w.heap.size + 1)) ∧
    ((l = 0 ∧ tkParts zs i = none) ∨ (l = 1 ∧ tkParts zs i = some (done.map Ps.p, (nx : Int)) ∧ done.length ≤ 256) ∨ (l = 2 ∧ ∃ n : Nat, left = n ∧ done.length + n ≤ 256 ∧ tkParts zs i = restOf (tkPart zs) (done.map Ps.p) n nx))
theorem Parts_none {zs : List Int} {w w' : World} {i : Int} (hb : Below w.heap.size w w') (h : tkParts zs i = none) : PartsTaken zs i w (.returned (.tuple #[.slice none 0 0, .int .i64 0, .bool false])) w' := ⟨hb, Or.inr ⟨h, rfl⟩⟩
theorem Parts_all {zs : List Int} {w w' : World} {i : Int} {done : List Ps} {A : Option Addr} {c nx : Nat} {cs : Array Value} (hT : Tkg 112 4 w w' (.slice A done.length c) done.length (done.flatMap Ps.cells) cs) (hI : ∀ x ∈ done, x.Own w' (w.heap.size + 1))
    (h : tkParts zs i = some (done.map Ps.p, (nx : Int))) (hn : nx ≤ zs.length) (hd : done.length ≤ 256) : PartsTaken zs i w (.returned (.tuple #[.slice A done.length c, .int .i64 nx, .bool true])) w' :=
  ⟨hT.bl, Or.inl ⟨_, nx, A, c, h, hn, by simpa using hd, by simp, ⟨done, rfl, by simpa using own_base hT.row (Nat.le_succ _), fun x hx => (hI x hx).base (Nat.le_succ _)⟩⟩⟩
theorem Parts_more {done : List Ps} {x : Ps} {w : World} {b : Nat} (hI : ∀ x ∈ done, x.Own w b) (hx : x.Own w b) : ∀ y ∈ done ++ [x], y.Own w b := fun y hy => by
  rcases List.mem_append.1 hy with h | h
  · exact hI y h
  · rw [List.mem_singleton.1 h]; exact hx

set_option maxHeartbeats 4000000 in
set_option maxRecDepth 100000 in
theorem take_parts (A : Option Addr) (cap : Nat) (zs : List Int) (B : Nat) (i : Int) (hl : zs.length ≤ 9223372036854775806) (hi : i ≤ 9223372036854775807) (hz : ∀ z ∈ zs, 0 ≤ z ∧ z ≤ 255) (w : World) (hB : B ≤ w.heap.size) (hh : Has w B A (u8s zs)) :
    Calls Tryz.prog 33 #[.slice A zs.length cap, .int .i64 i] w (PartsTaken zs i w) := by
  obtain ⟨i0, hinf, hy0, hy1, hy2⟩ := info_parts Tryz.info112
  have HH := Lib.hid (hh.more hB)
  have HN := Lib.hid (fun (i : Int) (hi : i ≤ 9223372036854775807) w B h => take_num A cap zs B i hl hi hz w h)
  have HVt := Lib.hid (fun (i : Int) (hi : i ≤ 9223372036854775807) w B hB h => take_votes A cap zs B i hl hi hz w hB h)
  have HCt := Lib.hid (fun (i : Int) (hi : i ≤ 9223372036854775807) w B hB h => take_certs A cap zs B i hl hi hz w hB h)
  have HL := Lib.hid (fun w B h => take_length A cap zs B i hl hi hz w h)
  clear hz hh
  go_enter Tryz.func33, Tryz.ntmps33
  go_wp2
  refine wp_scope_fall (PartsAt (.slice A zs.length cap) i zs w) (fun l a' _ => if l = 2 then (intOf (a'.tmps.getD 7 undef)).toNat + 1 else 0) ?_ ?_
  · rintro l a' w' ⟨L, nx, left, done, v0, v1, v2, v3, ⟨u2, u3, u6, u9, u10, u11, u12, u13, u14, u15, u16, u17, u18, u19, u20, u21, u22, u23, u24, u25, u26, u27, u28, u29, u30, u31, u32, u33, u34, u35, u36, u37, u38, u39, u40, u41, u42, u43, u44, u45, u46, u47, u48, u49, u50, u51, u52, u53, u54, u55, u56, u57, u58, u59, u60, u61, u62, u63, u64, u65, u66, u67, rfl⟩, hnx, hT, hI, hl3⟩
    rcases hl3 with ⟨rfl, hr⟩ | ⟨rfl, hr, hd⟩ | ⟨rfl, n, rfl, hn, hr⟩
    · refine ⟨_, rfl, ?_⟩
      have HR := Lib.hid (Parts_none hT.bl hr)
      clear hr hT hI
      go_wp2
      go_ret3
      exact HR.out
    · refine ⟨_, rfl, ?_⟩
      obtain ⟨A2, c2, rfl, _, _⟩ := own_slice hT.row
      have HR := Lib.hid (Parts_all hT hI hr hnx hd)
      clear hr hT hI
      go_wp2
      go_ret3
      exact HR.out
    · refine ⟨_, rfl, ?_⟩
      have HR := Lib.hid hr
      have HT0 := Lib.hid hT
      have HI0 := Lib.hid hI
      have HA0 := Lib.hid (HH.out.below hT.bl (Nat.le_refl _))
      have hgt := hT.blk.lt
      clear hr hT hI
      cases n with
      | zero =>
        rw [restOf_zero] at HR
        clear HA0
        go_wp2
        go_step3
        go_wp2
        exact ⟨L, nx, _, done, v0, v1, v2, v3, ⟨_, _, _, _, _, _, _, _, _, _, _, _, _, _, _, _, _, _, _, _, _, _, _, _, _, _, _, _, _, _, _, _, _, _, _, _, _, _, _, _, _, _, _, _, _, _, _, _, _, _, _, _, _, _, _, _, _, _, _, _, _, _, rfl⟩, hnx, HT0.out, HI0.out, Or.inr (Or.inl ⟨rfl, HR.out, by omega⟩)⟩
      | succ n =>
        have hne : (((n + 1 : Nat) : Int) == 0) = false := by simp; omega
        have ce0 : w'.cell? ⟨w.heap.size, 0, none⟩ = some v0 := HT0.out.cell 0
        have fr0 := HT0.out.frozen 0
        go_wp2_with fail
        refine (HN.out nx (by omega) _ _ HA0.out).mono ?_
        rintro e wq ⟨rfl, ⟨m0, k0, h1, hk0, rfl⟩ | ⟨h1, rfl⟩⟩
        · have H0 := Lib.hid h1
          clear h1
          obtain ⟨y0w, hW⟩ : ∃ W1, w'.setCell ⟨w.heap.size, 0, none⟩ (.int .i64 m0) = W1 := ⟨_, rfl⟩
          have HT1 := Lib.hid (show Tkg 112 4 w y0w L done.length (done.flatMap Ps.cells) #[.int .i64 m0, v1, v2, v3] from by rw [← hW]; exact HT0.out.set_ 0 _)
          have HKp : KeepsRows 112 w' y0w := by rw [← hW]; exact KeepsRows.set_ HT0.out 0 _
          have HI1 := Lib.hid (fun x hx => (HI0.out x hx).keeps HKp (by decide) (by decide) (by decide))
          have HA1 := Lib.hid (HH.out.below HT1.out.bl (Nat.le_refl _))
          have hgt := HT1.out.blk.lt
          have HW0 := Lib.hid hW
          clear hW HKp
          go_wp2_with fail
          rw [HW0.out]
          clear HW0
          refine (HVt.out k0 (by omega) _ _ HT1.out.bl.size HA1.out).mono ?_
          rintro e u1w ⟨hb1, h1⟩
          have HT1b := Lib.hid (HT1.out.below hb1)
          have HI1b := Lib.hid (fun x hx => (HI1.out x hx).keeps (KeepsRows.below (T := 112) hb1) (by decide) (by decide) (by decide))
          have HA1b := Lib.hid (HH.out.below HT1b.out.bl (Nat.le_refl _))
          have ce1 : u1w.cell? ⟨w.heap.size, 1, none⟩ = some v1 := HT1b.out.cell 1
          have fr1 := HT1b.out.frozen 1
          have hgt1 := HT1b.out.blk.lt
          rcases h1 with ⟨l1, k1, A1, c1, h1, hk1, hl1, rfl, hrow⟩ | ⟨h1, rfl⟩
          · have H1 := Lib.hid h1
            have HO1_1 := Lib.hid (own_base hrow (show w.heap.size + 1 ≤ _ from hgt))
            clear h1 hrow
            obtain ⟨y1w, hW⟩ : ∃ W1, u1w.setCell ⟨w.heap.size, 1, none⟩ (.slice A1 l1.length c1) = W1 := ⟨_, rfl⟩
            have HT2 := Lib.hid (show Tkg 112 4 w y1w L done.length (done.flatMap Ps.cells) #[.int .i64 m0, .slice A1 l1.length c1, v2, v3] from by rw [← hW]; exact HT1b.out.set_ 1 _)
            have HKp : KeepsRows 112 u1w y1w := by rw [← hW]; exact KeepsRows.set_ HT1b.out 1 _
            have HI2 := Lib.hid (fun x hx => (HI1b.out x hx).keeps HKp (by decide) (by decide) (by decide))
            have HA2 := Lib.hid (HH.out.below HT2.out.bl (Nat.le_refl _))
            have HO1_2b := Lib.hid (own_keepK HO1_1.out HKp (by decide))
            have hgt := HT2.out.blk.lt
            have HW1 := Lib.hid hW
            clear hW HKp
            go_wp2_with fail
            rw [HW1.out]
            clear HW1
            refine (HCt.out k1 (by omega) _ _ HT2.out.bl.size HA2.out).mono ?_
            rintro e u2w ⟨hb1, h1⟩
            have HT2b := Lib.hid (HT2.out.below hb1)
            have HI2b := Lib.hid (fun x hx => (HI2.out x hx).keeps (KeepsRows.below (T := 112) hb1) (by decide) (by decide) (by decide))
            have HA2b := Lib.hid (HH.out.below HT2b.out.bl (Nat.le_refl _))
            have HO1_2 := Lib.hid (own_keepB HO1_2b.out hb1)
            have ce2 : u2w.cell? ⟨w.heap.size, 2, none⟩ = some v2 := HT2b.out.cell 2
            have fr2 := HT2b.out.frozen 2
            have hgt2 := HT2b.out.blk.lt
            rcases h1 with ⟨l2, k2, A2, c2, h1, hk2, hl2, rfl, hrow⟩ | ⟨h1, rfl⟩
            · have H2 := Lib.hid h1
              have HO2_2 := Lib.hid (ownCerts_b hrow (show w.heap.size + 1 ≤ _ from hgt))
              clear h1 hrow
              obtain ⟨y2w, hW⟩ : ∃ W1, u2w.setCell ⟨w.heap.size, 2, none⟩ (.slice A2 l2.length c2) = W1 := ⟨_, rfl⟩
              have HT3 := Lib.hid (show Tkg 112 4 w y2w L done.length (done.flatMap Ps.cells) #[.int .i64 m0, .slice A1 l1.length c1, .slice A2 l2.length c2, v3] from by rw [← hW]; exact HT2b.out.set_ 2 _)
              have HKp : KeepsRows 112 u2w y2w := by rw [← hW]; exact KeepsRows.set_ HT2b.out 2 _
              have HI3 := Lib.hid (fun x hx => (HI2b.out x hx).keeps HKp (by decide) (by decide) (by decide))
              have HA3 := Lib.hid (HH.out.below HT3.out.bl (Nat.le_refl _))
              have HO1_3 := Lib.hid (own_keepK HO1_2.out HKp (by decide))
              have HO2_3 := Lib.hid (HO2_2.out.keeps HKp (by decide) (by decide) (by decide))
              have hgt := HT3.out.blk.lt
              have HW2 := Lib.hid hW
              clear hW HKp
              have ce3 : y2w.cell? ⟨w.heap.size, 3, none⟩ = some v3 := HT3.out.cell 3
              have fr3 := HT3.out.frozen 3
              have ce0 : y2w.cell? ⟨w.heap.size, 0, none⟩ = some (.int .i64 m0) := HT3.out.cell 0
              have ce1 : y2w.cell? ⟨w.heap.size, 1, none⟩ = some (.slice A1 l1.length c1) := HT3.out.cell 1
              have ce2 : y2w.cell? ⟨w.heap.size, 2, none⟩ = some (.slice A2 l2.length c2) := HT3.out.cell 2
              go_wp2_with fail
              rw [HW2.out]
              clear HW2
              refine (HN.out k2 (by omega) _ _ HA3.out).mono ?_
              rintro e wq ⟨rfl, ⟨m3, k3, h1, hk3, rfl⟩ | ⟨h1, rfl⟩⟩
              · have H3 := Lib.hid h1
                clear h1
                have HF : Hid (tkParts zs i = restOf (tkPart zs) ((done ++ [(⟨⟨m0, l1, l2, m3⟩, A1, c1, A2, c2⟩ : Ps)]).map Ps.p) n k3) := HR.out.trans ((restOf_some (x := ⟨m0, l1, l2, m3⟩) (k := (k3 : Int)) (by simp [tkPart, H0.out, H1.out, H2.out, H3.out])).trans (by simp))
                have HTs := Lib.hid (show Tkg 112 4 w (y2w.setCell ⟨w.heap.size, 3, none⟩ (.int .i64 m3)) L done.length (done.flatMap Ps.cells) #[.int .i64 m0, .slice A1 l1.length c1, .slice A2 l2.length c2, .int .i64 m3] from HT3.out.set_ 3 _)
                have HKp := Lib.hid (KeepsRows.set_ HT3.out 3 (.int .i64 m3))
                go_wp2_with (at_builtin; refine wpList_append_own _ rfl (.tmp 62) (.tmp 64) 33 rfl (w.heap.size + 1) 112 i0 _ 4 64 Tryz.underlying33 hinf hy0 hy1 hy2 rfl (by decide) _ _ _ rfl (HTs.out.row.alloc _) ⟨y2w.heap.size, 0, none⟩ 1 1 [.int .i64 m0, .slice A1 l1.length c1, .slice A2 l2.length c2, .int .i64 m3] rfl rfl ?c1 ?c2 ?c3 ?c4 ?c5 ?_)
                case c1 => exact World.news_of_block (cs := #[.int .i64 m0, .slice A1 l1.length c1, .slice A2 l2.length c2, .int .i64 m3]) (by simpa using heap_alloc_new (y2w.setCell ⟨w.heap.size, 3, none⟩ (.int .i64 m3)) (.cells #[.int .i64 m0, .slice A1 l1.length c1, .slice A2 l2.length c2, .int .i64 m3] 112))
                case c2 => intro u hu; simp at hu; rcases hu with rfl | rfl | rfl | rfl <;> rfl
                case c3 => unfold maxLen; omega
                case c4 => omega
                case c5 => have := HTs.out.bl.size; have := HTs.out.blk.lt; simp at *; omega
                intro L2 w3 ho3 hg3 _
                have HT3 := Lib.hid (show Tkg 112 4 w w3 L2 (done ++ [(⟨⟨m0, l1, l2, m3⟩, A1, c1, A2, c2⟩ : Ps)]).length ((done ++ [(⟨⟨m0, l1, l2, m3⟩, A1, c1, A2, c2⟩ : Ps)]).flatMap Ps.cells) #[.int .i64 m0, .slice A1 l1.length c1, .slice A2 l2.length c2, .int .i64 m3] from by rw [List.length_append, List.flatMap_append]; exact HTs.out.app (o := .cells #[.int .i64 m0, .slice A1 l1.length c1, .slice A2 l2.length c2, .int .i64 m3] 112) ho3 hg3)
                have HK3 := HKp.out.trans (KeepsRows.app HTs.out (o := .cells #[.int .i64 m0, .slice A1 l1.length c1, .slice A2 l2.length c2, .int .i64 m3] 112) hg3)
                have HI3 := Lib.hid (Parts_more (x := (⟨⟨m0, l1, l2, m3⟩, A1, c1, A2, c2⟩ : Ps)) (fun x hx => (HI3.out x hx).keeps HK3 (by decide) (by decide) (by decide)) ⟨HK3 _ _ _ _ _ _ (by decide) HO1_3.out, HO2_3.out.keeps HK3 (by decide) (by decide) (by decide)⟩)
                clear ho3 hg3 HK3 ce0 ce1 ce2 ce3 fr3
                go_wp2
                go_step3
                go_wp2
                exact ⟨⟨L2, k3, n, done ++ [(⟨⟨m0, l1, l2, m3⟩, A1, c1, A2, c2⟩ : Ps)], .int .i64 m0, .slice A1 l1.length c1, .slice A2 l2.length c2, .int .i64 m3, ⟨_, _, _, _, _, _, _, _, _, _, _, _, _, _, _, _, _, _, _, _, _, _, _, _, _, _, _, _, _, _, _, _, _, _, _, _, _, _, _, _, _, _, _, _, _, _, _, _, _, _, _, _, _, _, _, _, _, _, _, _, _, _, rfl⟩, hk3, HT3.out, HI3.out, Or.inr (Or.inr ⟨rfl, n, rfl, by simp; omega, HF.out⟩)⟩, by simp [intOf]; omega⟩
              · have HF : Hid (tkParts zs i = none) := HR.out.trans (restOf_none (by simp [tkPart, H0.out, H1.out, H2.out, h1]))
                have HTs := Lib.hid (show Tkg 112 4 w (y2w.setCell ⟨w.heap.size, 3, none⟩ (.int .i64 0)) L done.length (done.flatMap Ps.cells) #[.int .i64 m0, .slice A1 l1.length c1, .slice A2 l2.length c2, .int .i64 0] from HT3.out.set_ 3 _)
                have HIs := Lib.hid (fun x hx => (HI3.out x hx).keeps (KeepsRows.set_ HT3.out 3 (.int .i64 0)) (by decide) (by decide) (by decide))
                clear h1
                go_wp2
                go_step3
                go_wp2
                exact ⟨L, 0, _, done, .int .i64 m0, .slice A1 l1.length c1, .slice A2 l2.length c2, .int .i64 0, ⟨_, _, _, _, _, _, _, _, _, _, _, _, _, _, _, _, _, _, _, _, _, _, _, _, _, _, _, _, _, _, _, _, _, _, _, _, _, _, _, _, _, _, _, _, _, _, _, _, _, _, _, _, _, _, _, _, _, _, _, _, _, _, rfl⟩, Nat.zero_le _, HTs.out, HIs.out, Or.inl ⟨rfl, HF.out⟩⟩
            · have HF : Hid (tkParts zs i = none) := HR.out.trans (restOf_none (by simp [tkPart, H0.out, H1.out, h1]))
              have HTs := Lib.hid (show Tkg 112 4 w (u2w.setCell ⟨w.heap.size, 2, none⟩ (.slice none 0 0)) L done.length (done.flatMap Ps.cells) #[.int .i64 m0, .slice A1 l1.length c1, .slice none 0 0, v3] from HT2b.out.set_ 2 _)
              have HIs := Lib.hid (fun x hx => (HI2b.out x hx).keeps (KeepsRows.set_ HT2b.out 2 (.slice none 0 0)) (by decide) (by decide) (by decide))
              clear h1
              go_wp2
              go_step3
              go_wp2
              exact ⟨L, 0, _, done, .int .i64 m0, .slice A1 l1.length c1, .slice none 0 0, v3, ⟨_, _, _, _, _, _, _, _, _, _, _, _, _, _, _, _, _, _, _, _, _, _, _, _, _, _, _, _, _, _, _, _, _, _, _, _, _, _, _, _, _, _, _, _, _, _, _, _, _, _, _, _, _, _, _, _, _, _, _, _, _, _, rfl⟩, Nat.zero_le _, HTs.out, HIs.out, Or.inl ⟨rfl, HF.out⟩⟩
          · have HF : Hid (tkParts zs i = none) := HR.out.trans (restOf_none (by simp [tkPart, H0.out, h1]))
            have HTs := Lib.hid (show Tkg 112 4 w (u1w.setCell ⟨w.heap.size, 1, none⟩ (.slice none 0 0)) L done.length (done.flatMap Ps.cells) #[.int .i64 m0, .slice none 0 0, v2, v3] from HT1b.out.set_ 1 _)
            have HIs := Lib.hid (fun x hx => (HI1b.out x hx).keeps (KeepsRows.set_ HT1b.out 1 (.slice none 0 0)) (by decide) (by decide) (by decide))
            clear h1
            go_wp2
            go_step3
            go_wp2
            exact ⟨L, 0, _, done, .int .i64 m0, .slice none 0 0, v2, v3, ⟨_, _, _, _, _, _, _, _, _, _, _, _, _, _, _, _, _, _, _, _, _, _, _, _, _, _, _, _, _, _, _, _, _, _, _, _, _, _, _, _, _, _, _, _, _, _, _, _, _, _, _, _, _, _, _, _, _, _, _, _, _, _, rfl⟩, Nat.zero_le _, HTs.out, HIs.out, Or.inl ⟨rfl, HF.out⟩⟩
        · have HF : Hid (tkParts zs i = none) := HR.out.trans (restOf_none (by simp [tkPart, h1]))
          have HTs := Lib.hid (show Tkg 112 4 w (w'.setCell ⟨w.heap.size, 0, none⟩ (.int .i64 0)) L done.length (done.flatMap Ps.cells) #[.int .i64 0, v1, v2, v3] from HT0.out.set_ 0 _)
          have HIs := Lib.hid (fun x hx => (HI0.out x hx).keeps (KeepsRows.set_ HT0.out 0 (.int .i64 0)) (by decide) (by decide) (by decide))
          clear h1
          go_wp2
          go_step3
          go_wp2
          exact ⟨L, 0, _, done, .int .i64 0, v1, v2, v3, ⟨_, _, _, _, _, _, _, _, _, _, _, _, _, _, _, _, _, _, _, _, _, _, _, _, _, _, _, _, _, _, _, _, _, _, _, _, _, _, _, _, _, _, _, _, _, _, _, _, _, _, _, _, _, _, _, _, _, _, _, _, _, _, rfl⟩, Nat.zero_le _, HTs.out, HIs.out, Or.inl ⟨rfl, HF.out⟩⟩
  · intro again
    have HAg := Lib.hid again
    clear again
    go_wp2_with fail
    refine (HL.out _ _ (HH.out.below ((Below.refl _ w).alloc (Nat.le_refl _) _) (Nat.le_refl _))).mono ?_
    have HTn := Lib.hid (show Tkg 112 4 w (w.alloc (.cells #[.int .i64 0, .slice none 0 0, .slice none 0 0, .int .i64 0] 112)) (.slice none 0 0) ([] : List Ps).length (([] : List Ps).flatMap Ps.cells) #[.int .i64 0, .slice none 0 0, .slice none 0 0, .int .i64 0] from ⟨(Below.refl w.heap.size w).alloc (Nat.le_refl _) _, Blk.new _ _ _, World.ownsRow_nil _ _ _ _⟩)
    rintro e w1 ⟨rfl, ⟨n, k, h1, hn, hk, rfl⟩ | ⟨h1, rfl⟩⟩
    · have HF : Hid (tkParts zs i = restOf (tkPart zs) (([] : List Ps).map Ps.p) n k) := list_rest h1
      clear h1
      go_wp2
      go_step3
      rename_i hK
      refine hK _ _ (HAg.out 2 _ _ _ rfl ⟨_, k, n, [], .int .i64 0, .slice none 0 0, .slice none 0 0, .int .i64 0, ⟨_, _, _, _, _, _, _, _, _, _, _, _, _, _, _, _, _, _, _, _, _, _, _, _, _, _, _, _, _, _, _, _, _, _, _, _, _, _, _, _, _, _, _, _, _, _, _, _, _, _, _, _, _, _, _, _, _, _, _, _, _, _, rfl⟩, hk, HTn.out, by simp, Or.inr (Or.inr ⟨rfl, n, rfl, by simpa using hn, HF.out⟩)⟩)
    · have HF : Hid (tkParts zs i = none) := by simp [Hid, tkParts, tkList, h1]
      clear h1
      go_wp2
      go_step3
      go_wp2
      exact ⟨_, 0, _, [], .int .i64 0, .slice none 0 0, .slice none 0 0, .int .i64 0, ⟨_, _, _, _, _, _, _, _, _, _, _, _, _, _, _, _, _, _, _, _, _, _, _, _, _, _, _, _, _, _, _, _, _, _, _, _, _, _, _, _, _, _, _, _, _, _, _, _, _, _, _, _, _, _, _, _, _, _, _, _, _, _, rfl⟩, Nat.zero_le _, HTn.out, by simp, Or.inl ⟨rfl, HF.out⟩⟩
end Go.Proofs.YtiffmjfbdidgkaaGreat
