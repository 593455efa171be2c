/- The contract of pack.TakeCerts. -/
import Derived.Test.YtiffmjfbdidgkaaGreatOS1
namespace Go.Proofs.YtiffmjfbdidgkaaGreat
open Go.RowKit

theorem Tryz.info110 : (Tryz.prog.info? 110).map (fun i => (i.zero, i.size, i.bytes)) = some (some (.agg #[.int .i64 0, .int .i64 0, .int .i64 0, .slice none 0 0, .slice none 0 0]), 5, 72) := by kernel_rfl
/-- What TakeCerts answers. -/
def CertsTaken (zs : List Int) (i : Int) (w : World) (e : Ending) (w' : World) : Prop :=
  Below w.heap.size w w' ∧ ((∃ (l : List Ct) (k : Nat) (A : Option Addr) (c : Nat), tkCerts zs i = some (l, (k : Int)) ∧ k ≤ zs.length ∧ l.length ≤ 256 ∧ e = .returned (.tuple #[.slice A l.length c, .int .i64 k, .bool true]) ∧
      OwnCerts w' w.heap.size (.slice A l.length c) l) ∨
    (tkCerts zs i = none ∧ e = .returned (.tuple #[.slice none 0 0, .int .i64 0, .bool false])))
/-- The frame of TakeCerts. -/
def CertsFrame (B X L nx left p : Value) (a : Act) : Prop :=
  ∃ u2 u3 u6 u9 u10 u11 u12 u13 u14 u15 u16 u17 u18 u19 u20 u21 u22 u23 u24 u25 u26 u27 u28 u29 u30 u31 u32 u33 u34 u35 u36 u37 u38 u39 u40 u41 u42 u43 u44 u45 u46 u47 u48 u49 u50 u51 u52 u53 u54 u55 u56 u57 u58 u59 u60 u61 u62 u63 u64 u65 u66 u67 u68 u69 u70 u71 u72 u73 u74 u75 u76 u77 : Value, a = { tmps := #[B, X, u2, u3, L, nx, u6, left, p, u9, u10, u11, u12, u13, u14, u15, u16, u17, u18, u19, u20, u21, u22, u23, u24, u25, u26, u27, u28, u29, u30, u31, u32, u33, u34, u35, u36, u37, u38, u39, u40, u41, u42, u43, u44, u45, u46, u47, u48, u49, u50, u51, u52, u53, u54, u55, u56, u57, u58, u59, u60, u61, u62, u63, u64, u65, u66, u67, u68, u69, u70, u71, u72, u73, u74, u75, u76, u77], defers := [] }

/-- What holds at each label: 0: nothing is taken; 1: all are taken; 2: at the next thing. -/
def CertsAt (X0 : Value) (i : Int) (zs : List Int) (w : World) (l : Nat) (a : Act) (w' : World) : Prop :=
  ∃ (L : Value) (nx : Nat) (left : Int) (done : List Cs) (v0 v1 v2 v3 v4 : Value), CertsFrame X0 (.int .i64 i) L (.int .i64 nx) (.int .i64 left) (.pointer (some ⟨w.heap.size, 0, none⟩)) a ∧ nx ≤ zs.length ∧
    Tkg 110 5 w w' L done.length (done.flatMap Cs.cells) #[v0, v1, v2, v3, v4] ∧ (∀ x ∈ done, x.Own w' (w.heap.size + 1)) ∧
    ((l = 0 ∧ tkCerts zs i = none) ∨ (l = 1 ∧ tkCerts zs i = some (done.map Cs.c, (nx : Int)) ∧ done.length ≤ 256) ∨ (l = 2 ∧ ∃ n : Nat, left = n ∧ done.length + n ≤ 256 ∧ tkCerts zs i = restOf (tkCert zs) (done.map Cs.c) n nx))
theorem Certs_none {zs : List Int} {w w' : World} {i : Int} (hb : Below w.heap.size w w') (h : tkCerts zs i = none) : CertsTaken zs i w (.returned (.tuple #[.slice none 0 0, .int .i64 0, .bool false])) w' := ⟨hb, Or.inr ⟨h, rfl⟩⟩
theorem Certs_all {zs : List Int} {w w' : World} {i : Int} {done : List Cs} {A : Option Addr} {c nx : Nat} {cs : Array Value} (hT : Tkg 110 5 w w' (.slice A done.length c) done.length (done.flatMap Cs.cells) cs) (hI : ∀ x ∈ done, x.Own w' (w.heap.size + 1))
    (h : tkCerts zs i = some (done.map Cs.c, (nx : Int))) (hn : nx ≤ zs.length) (hd : done.length ≤ 256) : CertsTaken zs i w (.returned (.tuple #[.slice A done.length c, .int .i64 nx, .bool true])) w' :=
  ⟨hT.bl, Or.inl ⟨_, nx, A, c, h, hn, by simpa using hd, by simp, ⟨done, rfl, by simpa using own_base hT.row (Nat.le_succ _), fun x hx => (hI x hx).base (Nat.le_succ _)⟩⟩⟩
theorem Certs_more {done : List Cs} {x : Cs} {w : World} {b : Nat} (hI : ∀ x ∈ done, x.Own w b) (hx : x.Own w b) : ∀ y ∈ done ++ [x], y.Own w b := fun y hy => by
  rcases List.mem_append.1 hy with h | h
  · exact hI y h
  · rw [List.mem_singleton.1 h]; exact hx

set_option maxHeartbeats 4000000 in
set_option maxRecDepth 100000 in
theorem take_certs (A : Option Addr) (cap : Nat) (zs : List Int) (B : Nat) (i : Int) (hl : zs.length ≤ 9223372036854775806) (hi : i ≤ 9223372036854775807) (hz : ∀ z ∈ zs, 0 ≤ z ∧ z ≤ 255) (w : World) (hB : B ≤ w.heap.size) (hh : Has w B A (u8s zs)) :
    Calls Tryz.prog 32 #[.slice A zs.length cap, .int .i64 i] w (CertsTaken zs i w) := by
  obtain ⟨i0, hinf, hy0, hy1, hy2⟩ := info_parts Tryz.info110
  have HH := Lib.hid (hh.more hB)
  have HN := Lib.hid (fun (i : Int) (hi : i ≤ 9223372036854775807) w B h => take_num A cap zs B i hl hi hz w h)
  have HBt := Lib.hid (fun (i : Int) (hi : i ≤ 9223372036854775807) w B hB h => take_batch A cap zs B i hl hi hz w hB h)
  have HVt := Lib.hid (fun (i : Int) (hi : i ≤ 9223372036854775807) w B hB h => take_votes A cap zs B i hl hi hz w hB h)
  have HL := Lib.hid (fun w B h => take_length A cap zs B i hl hi hz w h)
  clear hz hh
  go_enter Tryz.func32, Tryz.ntmps32
  go_wp2
  refine wp_scope_fall (CertsAt (.slice A zs.length cap) i zs w) (fun l a' _ => if l = 2 then (intOf (a'.tmps.getD 7 undef)).toNat + 1 else 0) ?_ ?_
  · rintro l a' w' ⟨L, nx, left, done, v0, v1, v2, v3, v4, ⟨u2, u3, u6, u9, u10, u11, u12, u13, u14, u15, u16, u17, u18, u19, u20, u21, u22, u23, u24, u25, u26, u27, u28, u29, u30, u31, u32, u33, u34, u35, u36, u37, u38, u39, u40, u41, u42, u43, u44, u45, u46, u47, u48, u49, u50, u51, u52, u53, u54, u55, u56, u57, u58, u59, u60, u61, u62, u63, u64, u65, u66, u67, u68, u69, u70, u71, u72, u73, u74, u75, u76, u77, rfl⟩, hnx, hT, hI, hl3⟩
    rcases hl3 with ⟨rfl, hr⟩ | ⟨rfl, hr, hd⟩ | ⟨rfl, n, rfl, hn, hr⟩
    · refine ⟨_, rfl, ?_⟩
      have HR := Lib.hid (Certs_none hT.bl hr)
      clear hr hT hI
      go_wp2
      go_ret3
      exact HR.out
    · refine ⟨_, rfl, ?_⟩
      obtain ⟨A2, c2, rfl, _, _⟩ := own_slice hT.row
      have HR := Lib.hid (Certs_all hT hI hr hnx hd)
      clear hr hT hI
      go_wp2
      go_ret3
      exact HR.out
    · refine ⟨_, rfl, ?_⟩
      have HR := Lib.hid hr
      have HT0 := Lib.hid hT
      have HI0 := Lib.hid hI
      have HA0 := Lib.hid (HH.out.below hT.bl (Nat.le_refl _))
      have hgt := hT.blk.lt
      clear hr hT hI
      cases n with
      | zero =>
        rw [restOf_zero] at HR
        clear HA0
        go_wp2
        go_step3
        go_wp2
        exact ⟨L, nx, _, done, v0, v1, v2, v3, v4, ⟨_, _, _, _, _, _, _, _, _, _, _, _, _, _, _, _, _, _, _, _, _, _, _, _, _, _, _, _, _, _, _, _, _, _, _, _, _, _, _, _, _, _, _, _, _, _, _, _, _, _, _, _, _, _, _, _, _, _, _, _, _, _, _, _, _, _, _, _, _, _, _, _, rfl⟩, hnx, HT0.out, HI0.out, Or.inr (Or.inl ⟨rfl, HR.out, by omega⟩)⟩
      | succ n =>
        have hne : (((n + 1 : Nat) : Int) == 0) = false := by simp; omega
        have ce0 : w'.cell? ⟨w.heap.size, 0, none⟩ = some v0 := HT0.out.cell 0
        have fr0 := HT0.out.frozen 0
        go_wp2_with fail
        refine (HN.out nx (by omega) _ _ HA0.out).mono ?_
        rintro e wq ⟨rfl, ⟨m0, k0, h1, hk0, rfl⟩ | ⟨h1, rfl⟩⟩
        · have H0 := Lib.hid h1
          clear h1
          obtain ⟨y0w, hW⟩ : ∃ W1, w'.setCell ⟨w.heap.size, 0, none⟩ (.int .i64 m0) = W1 := ⟨_, rfl⟩
          have HT1 := Lib.hid (show Tkg 110 5 w y0w L done.length (done.flatMap Cs.cells) #[.int .i64 m0, v1, v2, v3, v4] from by rw [← hW]; exact HT0.out.set_ 0 _)
          have HKp : KeepsRows 110 w' y0w := by rw [← hW]; exact KeepsRows.set_ HT0.out 0 _
          have HI1 := Lib.hid (fun x hx => (HI0.out x hx).keeps HKp (by decide) (by decide))
          have HA1 := Lib.hid (HH.out.below HT1.out.bl (Nat.le_refl _))
          have hgt := HT1.out.blk.lt
          have HW0 := Lib.hid hW
          clear hW HKp
          have ce1 : y0w.cell? ⟨w.heap.size, 1, none⟩ = some v1 := HT1.out.cell 1
          have fr1 := HT1.out.frozen 1
          go_wp2_with fail
          rw [HW0.out]
          clear HW0
          refine (HN.out k0 (by omega) _ _ HA1.out).mono ?_
          rintro e wq ⟨rfl, ⟨m1, k1, h1, hk1, rfl⟩ | ⟨h1, rfl⟩⟩
          · have H1 := Lib.hid h1
            clear h1
            obtain ⟨y1w, hW⟩ : ∃ W1, y0w.setCell ⟨w.heap.size, 1, none⟩ (.int .i64 m1) = W1 := ⟨_, rfl⟩
            have HT2 := Lib.hid (show Tkg 110 5 w y1w L done.length (done.flatMap Cs.cells) #[.int .i64 m0, .int .i64 m1, v2, v3, v4] from by rw [← hW]; exact HT1.out.set_ 1 _)
            have HKp : KeepsRows 110 y0w y1w := by rw [← hW]; exact KeepsRows.set_ HT1.out 1 _
            have HI2 := Lib.hid (fun x hx => (HI1.out x hx).keeps HKp (by decide) (by decide))
            have HA2 := Lib.hid (HH.out.below HT2.out.bl (Nat.le_refl _))
            have hgt := HT2.out.blk.lt
            have HW1 := Lib.hid hW
            clear hW HKp
            have ce2 : y1w.cell? ⟨w.heap.size, 2, none⟩ = some v2 := HT2.out.cell 2
            have fr2 := HT2.out.frozen 2
            go_wp2_with fail
            rw [HW1.out]
            clear HW1
            refine (HN.out k1 (by omega) _ _ HA2.out).mono ?_
            rintro e wq ⟨rfl, ⟨m2, k2, h1, hk2, rfl⟩ | ⟨h1, rfl⟩⟩
            · have H2 := Lib.hid h1
              clear h1
              obtain ⟨y2w, hW⟩ : ∃ W1, y1w.setCell ⟨w.heap.size, 2, none⟩ (.int .i64 m2) = W1 := ⟨_, rfl⟩
              have HT3 := Lib.hid (show Tkg 110 5 w y2w L done.length (done.flatMap Cs.cells) #[.int .i64 m0, .int .i64 m1, .int .i64 m2, v3, v4] from by rw [← hW]; exact HT2.out.set_ 2 _)
              have HKp : KeepsRows 110 y1w y2w := by rw [← hW]; exact KeepsRows.set_ HT2.out 2 _
              have HI3 := Lib.hid (fun x hx => (HI2.out x hx).keeps HKp (by decide) (by decide))
              have HA3 := Lib.hid (HH.out.below HT3.out.bl (Nat.le_refl _))
              have hgt := HT3.out.blk.lt
              have HW2 := Lib.hid hW
              clear hW HKp
              go_wp2_with fail
              rw [HW2.out]
              clear HW2
              refine (HBt.out k2 (by omega) _ _ HT3.out.bl.size HA3.out).mono ?_
              rintro e u3w ⟨hb1, h1⟩
              have HT3b := Lib.hid (HT3.out.below hb1)
              have HI3b := Lib.hid (fun x hx => (HI3.out x hx).keeps (KeepsRows.below (T := 110) hb1) (by decide) (by decide))
              have HA3b := Lib.hid (HH.out.below HT3b.out.bl (Nat.le_refl _))
              have ce3 : u3w.cell? ⟨w.heap.size, 3, none⟩ = some v3 := HT3b.out.cell 3
              have fr3 := HT3b.out.frozen 3
              have hgt3 := HT3b.out.blk.lt
              rcases h1 with ⟨l3, k3, A3, c3, h1, hk3, hl3, rfl, hrow⟩ | ⟨h1, rfl⟩
              · have H3 := Lib.hid h1
                have HO3_3 := Lib.hid (own_base hrow (show w.heap.size + 1 ≤ _ from hgt))
                clear h1 hrow
                obtain ⟨y3w, hW⟩ : ∃ W1, u3w.setCell ⟨w.heap.size, 3, none⟩ (.slice A3 l3.length c3) = W1 := ⟨_, rfl⟩
                have HT4 := Lib.hid (show Tkg 110 5 w y3w L done.length (done.flatMap Cs.cells) #[.int .i64 m0, .int .i64 m1, .int .i64 m2, .slice A3 l3.length c3, v4] from by rw [← hW]; exact HT3b.out.set_ 3 _)
                have HKp : KeepsRows 110 u3w y3w := by rw [← hW]; exact KeepsRows.set_ HT3b.out 3 _
                have HI4 := Lib.hid (fun x hx => (HI3b.out x hx).keeps HKp (by decide) (by decide))
                have HA4 := Lib.hid (HH.out.below HT4.out.bl (Nat.le_refl _))
                have HO3_4b := Lib.hid (own_keepK HO3_3.out HKp (by decide))
                have hgt := HT4.out.blk.lt
                have HW3 := Lib.hid hW
                clear hW HKp
                go_wp2_with fail
                rw [HW3.out]
                clear HW3
                refine (HVt.out k3 (by omega) _ _ HT4.out.bl.size HA4.out).mono ?_
                rintro e u4w ⟨hb1, h1⟩
                have HT4b := Lib.hid (HT4.out.below hb1)
                have HI4b := Lib.hid (fun x hx => (HI4.out x hx).keeps (KeepsRows.below (T := 110) hb1) (by decide) (by decide))
                have HA4b := Lib.hid (HH.out.below HT4b.out.bl (Nat.le_refl _))
                have HO3_4 := Lib.hid (own_keepB HO3_4b.out hb1)
                have ce4 : u4w.cell? ⟨w.heap.size, 4, none⟩ = some v4 := HT4b.out.cell 4
                have fr4 := HT4b.out.frozen 4
                have ce0 : u4w.cell? ⟨w.heap.size, 0, none⟩ = some (.int .i64 m0) := HT4b.out.cell 0
                have ce1 : u4w.cell? ⟨w.heap.size, 1, none⟩ = some (.int .i64 m1) := HT4b.out.cell 1
                have ce2 : u4w.cell? ⟨w.heap.size, 2, none⟩ = some (.int .i64 m2) := HT4b.out.cell 2
                have ce3 : u4w.cell? ⟨w.heap.size, 3, none⟩ = some (.slice A3 l3.length c3) := HT4b.out.cell 3
                have hgt4 := HT4b.out.blk.lt
                rcases h1 with ⟨l4, k4, A4, c4, h1, hk4, hl4, rfl, hrow⟩ | ⟨h1, rfl⟩
                · have H4 := Lib.hid h1
                  have HO4_4 := Lib.hid (own_base hrow (show w.heap.size + 1 ≤ _ from hgt))
                  clear h1 hrow
                  have HF : Hid (tkCerts zs i = restOf (tkCert zs) ((done ++ [(⟨⟨m0, m1, m2, l3, l4⟩, A3, c3, A4, c4⟩ : Cs)]).map Cs.c) n k4) := HR.out.trans ((restOf_some (x := ⟨m0, m1, m2, l3, l4⟩) (k := (k4 : Int)) (by simp [tkCert, H0.out, H1.out, H2.out, H3.out, H4.out])).trans (by simp))
                  have HTs := Lib.hid (show Tkg 110 5 w (u4w.setCell ⟨w.heap.size, 4, none⟩ (.slice A4 l4.length c4)) L done.length (done.flatMap Cs.cells) #[.int .i64 m0, .int .i64 m1, .int .i64 m2, .slice A3 l3.length c3, .slice A4 l4.length c4] from HT4b.out.set_ 4 _)
                  have HKp := Lib.hid (KeepsRows.set_ HT4b.out 4 (.slice A4 l4.length c4))
                  go_wp2_with (at_builtin; refine wpList_append_own _ rfl (.tmp 72) (.tmp 74) 32 rfl (w.heap.size + 1) 110 i0 _ 5 72 Tryz.underlying32 hinf hy0 hy1 hy2 rfl (by decide) _ _ _ rfl (HTs.out.row.alloc _) ⟨u4w.heap.size, 0, none⟩ 1 1 [.int .i64 m0, .int .i64 m1, .int .i64 m2, .slice A3 l3.length c3, .slice A4 l4.length c4] rfl rfl ?c1 ?c2 ?c3 ?c4 ?c5 ?_)
                  case c1 => exact World.news_of_block (cs := #[.int .i64 m0, .int .i64 m1, .int .i64 m2, .slice A3 l3.length c3, .slice A4 l4.length c4]) (by simpa using heap_alloc_new (u4w.setCell ⟨w.heap.size, 4, none⟩ (.slice A4 l4.length c4)) (.cells #[.int .i64 m0, .int .i64 m1, .int .i64 m2, .slice A3 l3.length c3, .slice A4 l4.length c4] 110))
                  case c2 => intro u hu; simp at hu; rcases hu with rfl | rfl | rfl | rfl | rfl <;> rfl
                  case c3 => unfold maxLen; omega
                  case c4 => omega
                  case c5 => have := HTs.out.bl.size; have := HTs.out.blk.lt; simp at *; omega
                  intro L2 w3 ho3 hg3 _
                  have HT3 := Lib.hid (show Tkg 110 5 w w3 L2 (done ++ [(⟨⟨m0, m1, m2, l3, l4⟩, A3, c3, A4, c4⟩ : Cs)]).length ((done ++ [(⟨⟨m0, m1, m2, l3, l4⟩, A3, c3, A4, c4⟩ : Cs)]).flatMap Cs.cells) #[.int .i64 m0, .int .i64 m1, .int .i64 m2, .slice A3 l3.length c3, .slice A4 l4.length c4] from by rw [List.length_append, List.flatMap_append]; exact HTs.out.app (o := .cells #[.int .i64 m0, .int .i64 m1, .int .i64 m2, .slice A3 l3.length c3, .slice A4 l4.length c4] 110) ho3 hg3)
                  have HK3 := HKp.out.trans (KeepsRows.app HTs.out (o := .cells #[.int .i64 m0, .int .i64 m1, .int .i64 m2, .slice A3 l3.length c3, .slice A4 l4.length c4] 110) hg3)
                  have HI3 := Lib.hid (Certs_more (x := (⟨⟨m0, m1, m2, l3, l4⟩, A3, c3, A4, c4⟩ : Cs)) (fun x hx => (HI4b.out x hx).keeps HK3 (by decide) (by decide)) ⟨HK3 _ _ _ _ _ _ (by decide) HO3_4.out, HK3 _ _ _ _ _ _ (by decide) HO4_4.out⟩)
                  clear ho3 hg3 HK3 ce0 ce1 ce2 ce3 ce4 fr4
                  go_wp2
                  go_step3
                  go_wp2
                  exact ⟨⟨L2, k4, n, done ++ [(⟨⟨m0, m1, m2, l3, l4⟩, A3, c3, A4, c4⟩ : Cs)], .int .i64 m0, .int .i64 m1, .int .i64 m2, .slice A3 l3.length c3, .slice A4 l4.length c4, ⟨_, _, _, _, _, _, _, _, _, _, _, _, _, _, _, _, _, _, _, _, _, _, _, _, _, _, _, _, _, _, _, _, _, _, _, _, _, _, _, _, _, _, _, _, _, _, _, _, _, _, _, _, _, _, _, _, _, _, _, _, _, _, _, _, _, _, _, _, _, _, _, _, rfl⟩, hk4, HT3.out, HI3.out, Or.inr (Or.inr ⟨rfl, n, rfl, by simp; omega, HF.out⟩)⟩, by simp [intOf]; omega⟩
                · have HF : Hid (tkCerts zs i = none) := HR.out.trans (restOf_none (by simp [tkCert, H0.out, H1.out, H2.out, H3.out, h1]))
                  have HTs := Lib.hid (show Tkg 110 5 w (u4w.setCell ⟨w.heap.size, 4, none⟩ (.slice none 0 0)) L done.length (done.flatMap Cs.cells) #[.int .i64 m0, .int .i64 m1, .int .i64 m2, .slice A3 l3.length c3, .slice none 0 0] from HT4b.out.set_ 4 _)
                  have HIs := Lib.hid (fun x hx => (HI4b.out x hx).keeps (KeepsRows.set_ HT4b.out 4 (.slice none 0 0)) (by decide) (by decide))
                  clear h1
                  go_wp2
                  go_step3
                  go_wp2
                  exact ⟨L, 0, _, done, .int .i64 m0, .int .i64 m1, .int .i64 m2, .slice A3 l3.length c3, .slice none 0 0, ⟨_, _, _, _, _, _, _, _, _, _, _, _, _, _, _, _, _, _, _, _, _, _, _, _, _, _, _, _, _, _, _, _, _, _, _, _, _, _, _, _, _, _, _, _, _, _, _, _, _, _, _, _, _, _, _, _, _, _, _, _, _, _, _, _, _, _, _, _, _, _, _, _, rfl⟩, Nat.zero_le _, HTs.out, HIs.out, Or.inl ⟨rfl, HF.out⟩⟩
              · have HF : Hid (tkCerts zs i = none) := HR.out.trans (restOf_none (by simp [tkCert, H0.out, H1.out, H2.out, h1]))
                have HTs := Lib.hid (show Tkg 110 5 w (u3w.setCell ⟨w.heap.size, 3, none⟩ (.slice none 0 0)) L done.length (done.flatMap Cs.cells) #[.int .i64 m0, .int .i64 m1, .int .i64 m2, .slice none 0 0, v4] from HT3b.out.set_ 3 _)
                have HIs := Lib.hid (fun x hx => (HI3b.out x hx).keeps (KeepsRows.set_ HT3b.out 3 (.slice none 0 0)) (by decide) (by decide))
                clear h1
                go_wp2
                go_step3
                go_wp2
                exact ⟨L, 0, _, done, .int .i64 m0, .int .i64 m1, .int .i64 m2, .slice none 0 0, v4, ⟨_, _, _, _, _, _, _, _, _, _, _, _, _, _, _, _, _, _, _, _, _, _, _, _, _, _, _, _, _, _, _, _, _, _, _, _, _, _, _, _, _, _, _, _, _, _, _, _, _, _, _, _, _, _, _, _, _, _, _, _, _, _, _, _, _, _, _, _, _, _, _, _, rfl⟩, Nat.zero_le _, HTs.out, HIs.out, Or.inl ⟨rfl, HF.out⟩⟩
            · have HF : Hid (tkCerts zs i = none) := HR.out.trans (restOf_none (by simp [tkCert, H0.out, H1.out, h1]))
              have HTs := Lib.hid (show Tkg 110 5 w (y1w.setCell ⟨w.heap.size, 2, none⟩ (.int .i64 0)) L done.length (done.flatMap Cs.cells) #[.int .i64 m0, .int .i64 m1, .int .i64 0, v3, v4] from HT2.out.set_ 2 _)
              have HIs := Lib.hid (fun x hx => (HI2.out x hx).keeps (KeepsRows.set_ HT2.out 2 (.int .i64 0)) (by decide) (by decide))
              clear h1
              go_wp2
              go_step3
              go_wp2
              exact ⟨L, 0, _, done, .int .i64 m0, .int .i64 m1, .int .i64 0, v3, v4, ⟨_, _, _, _, _, _, _, _, _, _, _, _, _, _, _, _, _, _, _, _, _, _, _, _, _, _, _, _, _, _, _, _, _, _, _, _, _, _, _, _, _, _, _, _, _, _, _, _, _, _, _, _, _, _, _, _, _, _, _, _, _, _, _, _, _, _, _, _, _, _, _, _, rfl⟩, Nat.zero_le _, HTs.out, HIs.out, Or.inl ⟨rfl, HF.out⟩⟩
          · have HF : Hid (tkCerts zs i = none) := HR.out.trans (restOf_none (by simp [tkCert, H0.out, h1]))
            have HTs := Lib.hid (show Tkg 110 5 w (y0w.setCell ⟨w.heap.size, 1, none⟩ (.int .i64 0)) L done.length (done.flatMap Cs.cells) #[.int .i64 m0, .int .i64 0, v2, v3, v4] from HT1.out.set_ 1 _)
            have HIs := Lib.hid (fun x hx => (HI1.out x hx).keeps (KeepsRows.set_ HT1.out 1 (.int .i64 0)) (by decide) (by decide))
            clear h1
            go_wp2
            go_step3
            go_wp2
            exact ⟨L, 0, _, done, .int .i64 m0, .int .i64 0, v2, v3, v4, ⟨_, _, _, _, _, _, _, _, _, _, _, _, _, _, _, _, _, _, _, _, _, _, _, _, _, _, _, _, _, _, _, _, _, _, _, _, _, _, _, _, _, _, _, _, _, _, _, _, _, _, _, _, _, _, _, _, _, _, _, _, _, _, _, _, _, _, _, _, _, _, _, _, rfl⟩, Nat.zero_le _, HTs.out, HIs.out, Or.inl ⟨rfl, HF.out⟩⟩
        · have HF : Hid (tkCerts zs i = none) := HR.out.trans (restOf_none (by simp [tkCert, h1]))
          have HTs := Lib.hid (show Tkg 110 5 w (w'.setCell ⟨w.heap.size, 0, none⟩ (.int .i64 0)) L done.length (done.flatMap Cs.cells) #[.int .i64 0, v1, v2, v3, v4] from HT0.out.set_ 0 _)
          have HIs := Lib.hid (fun x hx => (HI0.out x hx).keeps (KeepsRows.set_ HT0.out 0 (.int .i64 0)) (by decide) (by decide))
          clear h1
          go_wp2
          go_step3
          go_wp2
          exact ⟨L, 0, _, done, .int .i64 0, v1, v2, v3, v4, ⟨_, _, _, _, _, _, _, _, _, _, _, _, _, _, _, _, _, _, _, _, _, _, _, _, _, _, _, _, _, _, _, _, _, _, _, _, _, _, _, _, _, _, _, _, _, _, _, _, _, _, _, _, _, _, _, _, _, _, _, _, _, _, _, _, _, _, _, _, _, _, _, _, rfl⟩, Nat.zero_le _, HTs.out, HIs.out, Or.inl ⟨rfl, HF.out⟩⟩
  · intro again
    have HAg := Lib.hid again
    clear again
    go_wp2_with fail
    refine (HL.out _ _ (HH.out.below ((Below.refl _ w).alloc (Nat.le_refl _) _) (Nat.le_refl _))).mono ?_
    have HTn := Lib.hid (show Tkg 110 5 w (w.alloc (.cells #[.int .i64 0, .int .i64 0, .int .i64 0, .slice none 0 0, .slice none 0 0] 110)) (.slice none 0 0) ([] : List Cs).length (([] : List Cs).flatMap Cs.cells) #[.int .i64 0, .int .i64 0, .int .i64 0, .slice none 0 0, .slice none 0 0] from ⟨(Below.refl w.heap.size w).alloc (Nat.le_refl _) _, Blk.new _ _ _, World.ownsRow_nil _ _ _ _⟩)
    rintro e w1 ⟨rfl, ⟨n, k, h1, hn, hk, rfl⟩ | ⟨h1, rfl⟩⟩
    · have HF : Hid (tkCerts zs i = restOf (tkCert zs) (([] : List Cs).map Cs.c) n k) := list_rest h1
      clear h1
      go_wp2
      go_step3
      rename_i hK
      refine hK _ _ (HAg.out 2 _ _ _ rfl ⟨_, k, n, [], .int .i64 0, .int .i64 0, .int .i64 0, .slice none 0 0, .slice none 0 0, ⟨_, _, _, _, _, _, _, _, _, _, _, _, _, _, _, _, _, _, _, _, _, _, _, _, _, _, _, _, _, _, _, _, _, _, _, _, _, _, _, _, _, _, _, _, _, _, _, _, _, _, _, _, _, _, _, _, _, _, _, _, _, _, _, _, _, _, _, _, _, _, _, _, rfl⟩, hk, HTn.out, by simp, Or.inr (Or.inr ⟨rfl, n, rfl, by simpa using hn, HF.out⟩)⟩)
    · have HF : Hid (tkCerts zs i = none) := by simp [Hid, tkCerts, tkList, h1]
      clear h1
      go_wp2
      go_step3
      go_wp2
      exact ⟨_, 0, _, [], .int .i64 0, .int .i64 0, .int .i64 0, .slice none 0 0, .slice none 0 0, ⟨_, _, _, _, _, _, _, _, _, _, _, _, _, _, _, _, _, _, _, _, _, _, _, _, _, _, _, _, _, _, _, _, _, _, _, _, _, _, _, _, _, _, _, _, _, _, _, _, _, _, _, _, _, _, _, _, _, _, _, _, _, _, _, _, _, _, _, _, _, _, _, _, rfl⟩, Nat.zero_le _, HTn.out, by simp, Or.inl ⟨rfl, HF.out⟩⟩
end Go.Proofs.YtiffmjfbdidgkaaGreat
