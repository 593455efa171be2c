/- The walk of StorePlays. -/
import Derived.Test.YtnbmhcgalpnmeaaStoreRight
import Derived.Test.YtnbmhcgalpnmeaaOps10
namespace Go.Proofs.Ytnbmhcgalpnmeaa
open Go.RowKit Go.Maps

/-- The store and the document's, each with what its keys have. -/
structure Sq (w : World) (sb bm N : Nat) (V : Kv) (rb : Nat) (U : Kv) (wr : World) : Prop where
  s : Sn w sb bm N V wr
  r : Rs wr rb U
  ok : U.Ok
  b2 : w.heap.size ≤ rb
  n1 : rb ≠ bm
  n2 : rb ≠ sb
section
variable {w wr : World} {sb bm N rb : Nat} {V U : Kv}
theorem Sq.low (h : Sq w sb bm N V rb U wr) : Below w.heap.size w wr := h.s.low
theorem Sq.below {w2 : World} (h : Sq w sb bm N V rb U wr) (hb : Below wr.heap.size wr w2) : Sq w sb bm N V rb U w2 := ⟨h.s.below hb, h.r.below hb, h.ok, h.b2, h.n1, h.n2⟩
theorem Sq.drewN (h : Sq w sb bm N V rb U wr) (n : Nat) : Sq w sb bm N V rb U (wr.drewN n) := ⟨h.s.drewN n, Blk.drewN h.r n, h.ok, h.b2, h.n1, h.n2⟩
theorem Sq.left (h : Sq w sb bm N V rb U wr) (hN : N ≤ 1000000) (kd p v : Int) :
    Calls Try.prog 14 #[.pointer (some ⟨sb, 0, none⟩), .agg #[.int .i64 kd, .int .i64 p, .int .i64 v]] wr fun e w' => e = .returned (.int .i64 (storeS V kd p v).1) ∧ Sq w sb bm (N + 1) (storeS V kd p v).2 rb U w' :=
  (h.s.apply hN kd p v).mono fun _ _ ⟨he, hs, ht⟩ => ⟨he, hs, ht.blk h.r h.n1, h.ok, h.b2, h.n1, h.n2⟩
theorem Sq.right (h : Sq w sb bm N V rb U wr) (kd p v : Int) :
    Calls Try.prog 17 #[.pointer (some ⟨rb, 0, none⟩), .agg #[.int .i64 kd, .int .i64 p, .int .i64 v]] wr fun e w' => e = .returned (.int .i64 (storeS U kd p v).1) ∧ Sq w sb bm N V rb (storeS U kd p v).2 w' :=
  (rapply_any h.r h.ok kd p v).mono fun _ _ ⟨he, hs, ht⟩ => ⟨he, ⟨h.s.st.kept ht (fun e => h.n2 e.symm) (fun e => h.n1 e.symm), h.s.low.trans (ht.below h.s.low.size (fun k hk hz => by have := h.b2; omega)), h.s.b0, h.s.b1⟩, hs, storeS_ok h.ok kd p v, h.b2, h.n1, h.n2⟩
end
theorem rzero (w : World) : (zeroValue 40).run Try.prog w = .ok (.agg (stCells Kv.new)) w := by kernel_rfl
/-- The document's store, made beside the store. -/
theorem Sq.new {w wr : World} {sb bm N : Nat} (h : Sn w sb bm N Kv.new wr) {Z : Array Value} (hZ : stCells Kv.new = Z) : Sq w sb bm N Kv.new wr.heap.size Kv.new (wr.alloc (.cells Z 40)) :=
  ⟨h.below ((Below.refl _ _).alloc (Nat.le_refl _) _), hZ ▸ Blk.new _ _ _, Kv.Ok.new, h.low.size, by have := h.st.lt; omega, by have := h.st.lt; omega⟩
structure Pl10 (w : World) (sb bm rb : Nat) (i : Nat) (wr : World) : Prop where
  ex : ∃ N V, N ≤ i ∧ Sq w sb bm N V rb V wr
set_option maxHeartbeats 4000000 in
set_option maxRecDepth 100000 in
theorem storePlays_walk (A : Option Addr) (c : Nat) (zs : List Oe) (w : World) (hl : IsOps w A zs c) :
    Calls Try.prog 5 #[.slice A zs.length c] w fun e w' => e = .returned (.bool true) ∧ Below w.heap.size w w' := by
  have HL := Lib.hid hl
  obtain ⟨Z, hZ⟩ : ∃ Z, stCells Kv.new = Z := ⟨_, rfl⟩
  have hz : ∀ w, (zeroValue 40).run Try.prog w = .ok (.agg Z) w := fun w => hZ ▸ rzero w
  have HZ := Lib.hid hZ
  clear hl hZ
  go_enter Try.func5, Try.ntmps5
  go_wp2_with fail
  refine (sn_new w _ (Below.refl _ _)).mono ?_
  rintro e v1 ⟨sb, bm, rfl, h1, _, _, _⟩
  have H1 := Lib.hid h1
  clear h1
  go_wp2_with fail
  have HQ := Lib.hid (show Pl10 w sb bm v1.heap.size 0 (v1.alloc (.cells Z 40)) from ⟨0, Kv.new, Nat.le_refl _, Sq.new H1.out HZ.out⟩)
  obtain ⟨rb, hrb⟩ : ∃ rb, v1.heap.size = rb := ⟨_, rfl⟩
  obtain ⟨v2, hv2⟩ : ∃ v2, v1.alloc (.cells Z 40) = v2 := ⟨_, rfl⟩
  rw [hrb, hv2] at HQ
  rw [hrb, hv2]
  clear hrb hv2 hz
  go_loopw [5] (fun y wr => ∃ i : Nat, y = .int .i64 i ∧ i ≤ 150 ∧ i ≤ zs.length ∧ Hid (Pl10 w sb bm rb i wr)) (fun y _ => zs.length - (intOf y).toNat)
  case atStart => exact ⟨0, rfl, by omega, by omega, HQ⟩
  case round =>
    obtain ⟨i, rfl, hi, hi2, HS⟩ := hrel
    obtain ⟨N, V, hN, hS⟩ := HS.out.ex
    have HS2 := Lib.hid hS
    clear HS hS
    by_cases hlt : i < zs.length ∧ i < 150
    · obtain ⟨hlt, h150⟩ := hlt
      obtain ⟨r, hr⟩ : ∃ r, zs[i] = r := ⟨_, rfl⟩
      obtain ⟨x, y, z⟩ := r
      obtain ⟨ad, ea, hb, c0, c1, c2⟩ := ope_at ((HL.out.has.below HS2.out.low (Nat.le_refl _)).drewN 1) hlt
      subst ea
      rw [hr] at c0 c1 c2
      simp only at c0 c1 c2
      have c0 : wr.drew.cell? (ad.add (i * 3)) = some (.int .i64 x) := c0
      have c1 : wr.drew.cell? ⟨(ad.add (i * 3)).block, (ad.add (i * 3)).off + 1, none⟩ = some (.int .i64 y) := c1
      have c2 : wr.drew.cell? ⟨(ad.add (i * 3)).block, (ad.add (i * 3)).off + 2, none⟩ = some (.int .i64 z) := c2
      obtain ⟨q, hq⟩ : ∃ q, (storeS V x y z).1 = q := ⟨_, rfl⟩
      have KL := Lib.hid (show ∀ (w2 : World) (U : Kv), Sq w sb bm N V rb U w2 → Calls Try.prog 14 #[.pointer (some ⟨sb, 0, none⟩), .agg #[.int .i64 x, .int .i64 y, .int .i64 z]] w2 fun e w' => e = .returned (.int .i64 q) ∧ Sq w sb bm (N + 1) (storeS V x y z).2 rb U w' from fun w2 U h => hq ▸ h.left (by omega) x y z)
      have KR := Lib.hid (show ∀ (w2 : World) (M : Nat) (W : Kv), Sq w sb bm M W rb V w2 → Calls Try.prog 17 #[.pointer (some ⟨rb, 0, none⟩), .agg #[.int .i64 x, .int .i64 y, .int .i64 z]] w2 fun e w' => e = .returned (.int .i64 q) ∧ Sq w sb bm M W rb (storeS V x y z).2 w' from fun w2 M W h => hq ▸ h.right x y z)
      have KC := Lib.hid (show ∀ (w2 : World), Below w.heap.size w w2 → w2.cell? (ad.add (i * 3)) = some (.int .i64 x) ∧ w2.cell? ⟨(ad.add (i * 3)).block, (ad.add (i * 3)).off + 1, none⟩ = some (.int .i64 y) ∧ w2.cell? ⟨(ad.add (i * 3)).block, (ad.add (i * 3)).off + 2, none⟩ = some (.int .i64 z) from fun w2 hb2 => by
        obtain ⟨ad', ea, _, d0, d1, d2⟩ := ope_at (HL.out.has.below hb2 (Nat.le_refl _)) hlt
        obtain rfl := Option.some.inj ea
        rw [hr] at d0 d1 d2
        exact ⟨d0, d1, d2⟩)
      have HD := Lib.hid (HS2.out.drewN 1)
      have HD : Hid (Sq w sb bm N V rb V wr.drew) := HD
      clear hr hq hb
      go_wp2_with fail
      go_region_law (go_simp; first
        | (go_at_call 14; refine (KL.out _ _ HD.out).mono ?_; rintro e w1 ⟨rfl, hs1⟩; obtain ⟨d0, d1, d2⟩ := KC.out _ hs1.low; have HQ1 := Lib.hid hs1; clear hs1)
        | (go_at_call 17; refine (KR.out _ _ _ HD.out).mono ?_; rintro e w1 ⟨rfl, hs1⟩; obtain ⟨d0, d1, d2⟩ := KC.out _ hs1.low; have HQ1 := Lib.hid hs1; clear hs1)
        | (go_at_call 14; refine (KL.out _ _ HQ1.out).mono ?_; rintro e w2 ⟨rfl, hs2⟩; have HQ2 := Lib.hid hs2; clear hs2)
        | (go_at_call 17; refine (KR.out _ _ _ HQ1.out).mono ?_; rintro e w2 ⟨rfl, hs2⟩; have HQ2 := Lib.hid hs2; clear hs2))
      all_goals
        have HX := Lib.hid (show Pl10 w sb bm rb (i + 1) w2 from ⟨N + 1, _, by omega, HQ2.out⟩)
        go_wp2_with fail
        go_roundw
        case rel => exact ⟨i + 1, by go_num, by omega, by omega, HX⟩
        case measure => simp [intOf]; omega
    · have hstop : zs.length ≤ i ∨ (i < zs.length ∧ 150 ≤ i) := by omega
      clear hlt
      rcases hstop with hs | ⟨hs, hs2⟩
      all_goals
        go_wp2_with fail
        refine (right_any HS2.out.s.st HS2.out.r).mono ?_
        rintro e v7 ⟨rfl, hb⟩
        have H7 := Lib.hid (HS2.out.below hb)
        clear hb
        go_wp2_with fail
        refine (wakes10_any _).mono ?_
        rintro e v8 ⟨rfl, hb⟩
        have H8 := Lib.hid (H7.out.below hb)
        clear hb
        go_wp2_with fail
        go_ret
        exact ⟨rfl, H8.out.low⟩
end Go.Proofs.Ytnbmhcgalpnmeaa
