/- The contract of the document's Open. -/
import Derived.Test.YtbegjadohamkkaaGreatOMsgUnseal
import Derived.Test.YtbegjadohamkkaaGreatOMsgRefParse
import Derived.Test.YtbegjadohamkkaaGreatORefFormS
import Derived.Test.YtbegjadohamkkaaGreatOS9
import Derived.Test.YtbegjadohamkkaaGreatORefNot
namespace Go.Proofs.YtbegjadohamkkaaGreat
open Go.RowKit Go.Sort

theorem rtake_num (A : Option Addr) (cap : Nat) (zs : List Int) (B : Nat) (i : Int) (hl : zs.length ≤ 9223372036854775806) (hi : i ≤ 9223372036854775807) (hz : ∀ z ∈ zs, 0 ≤ z ∧ z ≤ 255) (w : World) (hh : Has w B A (u8s zs)) :
    Calls Tryz.prog 112 #[.slice A zs.length cap, .int .i64 i] w (NumTaken (tkNum zs) zs i w) :=
  (reftake_any A cap zs B i w hl hi hz hh).mono fun e w' ⟨he, hw⟩ => by
    refine ⟨hw, ?_⟩
    rcases tk_cases zs i hz with ⟨h1, h2⟩ | ⟨m, p, q, _, h1, h2, _, h3, _⟩
    · rw [h2] at he
      exact Or.inr ⟨by simp [tkNum, h1], he⟩
    · rw [h2] at he
      exact Or.inl ⟨m, q, by simp [tkNum, h1], h3, he⟩
/-- What the document's Open answers. -/
def ROpenPost (o : Option (Mg × Int)) (w : World) (e : Ending) (w' : World) : Prop :=
  Below w.heap.size w w' ∧ ((∃ (x : Ms) (k : Int), o = some (x.m, k) ∧ e = .returned (.tuple #[.agg #[.int .i64 x.m.kd, .int .i64 x.m.fr, .int .i64 x.m.vw, .int .i64 x.m.ins, .int .i64 x.m.sq, .int .i64 x.m.rs, .slice x.A1 x.m.bt.length x.c1, .slice x.A2 x.m.vs.length x.c2, .slice x.A3 x.m.cs.length x.c3, .slice x.A4 x.m.ps.length x.c4], .int .i64 k, .bool true]) ∧ x.Own w' w.heap.size) ∨
    (o = none ∧ e = .returned (.tuple #[.agg #[.int .i64 0, .int .i64 0, .int .i64 0, .int .i64 0, .int .i64 0, .int .i64 0, .slice none 0 0, .slice none 0 0, .slice none 0 0, .slice none 0 0], .int .i64 0, .bool false])))
set_option maxHeartbeats 8000000 in
set_option maxRecDepth 100000 in
theorem ropen_any {w : World} {R : Nat → Prop} {rb : Nat} {l : List Deed} (hR : Rf R w rb l) (hnd : l.Nodup) (hRz : ∀ k, R k → k < w.heap.size) {A : Option Addr} {n c B : Nat} {zs : List Int} (hn : zs.length = n) (hnc : n ≤ c) (hl : n ≤ 9223372036854775806) (hz : ∀ z ∈ zs, 0 ≤ z ∧ z ≤ 255) (hB : B ≤ w.heap.size) (hh : Has w B A (u8s zs)) (f cl : Int) :
    Calls Tryz.prog 50 #[.slice A n c, .int .i64 f, .int .i64 cl, .pointer (some ⟨rb, 0, none⟩)] w (ROpenPost (openS (fun m => formS m f cl) zs l) w) := by
  obtain ⟨F, hFF⟩ : ∃ F : Mg → Bool, (fun m => formS m f cl) = F := ⟨_, rfl⟩
  have HFF := Lib.hid (fun m => congrFun hFF m)
  rw [hFF]
  have hb0 : Below w.heap.size w (w.alloc (.cells #[.int .i64 0, .int .i64 0, .int .i64 0, .int .i64 0, .int .i64 0, .int .i64 0, .slice none 0 0, .slice none 0 0, .slice none 0 0, .slice none 0 0] 38)) := (Below.refl _ w).alloc (Nat.le_refl _) _
  have HB0 := Lib.hid hb0
  have HBl0 := Lib.hid (Blk.new w 38 #[.int .i64 0, .int .i64 0, .int .i64 0, .int .i64 0, .int .i64 0, .int .i64 0, .slice none 0 0, .slice none 0 0, .slice none 0 0, .slice none 0 0])
  have HH := Lib.hid (hh.below (hb0.mono hB) (Nat.le_refl _))
  have HN := Lib.hid (hR.below hb0)
  have HNd := Lib.hid hnd
  have HZ := Lib.hid hz
  have HL := Lib.hid hn
  have HRz := Lib.hid hRz
  clear hh hb0 hR hnd hRz hFF
  by_cases hlen : 65536 < n
  · have HR := Lib.hid (show openS F zs l = none from if_neg (by rw [hn]; omega))
    clear hn hz
    go_enter Tryz.func50, Tryz.ntmps50
    obtain ⟨w0, hw0⟩ : ∃ w0, w.alloc (.cells #[.int .i64 0, .int .i64 0, .int .i64 0, .int .i64 0, .int .i64 0, .int .i64 0, .slice none 0 0, .slice none 0 0, .slice none 0 0, .slice none 0 0] 38) = w0 := ⟨_, rfl⟩
    have HLo := HB0
    have HB8 := HBl0
    rw [hw0] at HLo HB8
    go_upto_region 2 with fail
    clear hw0
    have HThz := Lib.hid (there_ten HB8.out)
    have hz2 : Hold w (w0.setCells w.heap.size 0 [.int .i64 0, .int .i64 0, .int .i64 0, .int .i64 0, .int .i64 0, .int .i64 0, .slice none 0 0, .slice none 0 0, .slice none 0 0, .slice none 0 0]) ⟨⟨0, 0, 0, 0, 0, 0, [], [], [], []⟩, none, 0, none, 0, none, 0, none, 0⟩ := Hold.fresh (x := ⟨⟨0, 0, 0, 0, 0, 0, [], [], [], []⟩, none, 0, none, 0, none, 0, none, 0⟩) HLo.out HB8.out (Ms.Own.nil _ _ _ _ _ _ _ _)
    obtain ⟨wz, hwz⟩ : ∃ wz, w0.setCells w.heap.size 0 [.int .i64 0, .int .i64 0, .int .i64 0, .int .i64 0, .int .i64 0, .int .i64 0, .slice none 0 0, .slice none 0 0, .slice none 0 0, .slice none 0 0] = wz := ⟨_, rfl⟩
    rw [hwz] at hz2
    have HWzz := Lib.hid hwz
    have HBz := Lib.hid hz2.low
    have z0 : wz.cell? ⟨w.heap.size, 0, none⟩ = some (.int .i64 0) := hz2.blk.cell 0
    have z1 : wz.cell? ⟨w.heap.size, 1, none⟩ = some (.int .i64 0) := hz2.blk.cell 1
    have z2 : wz.cell? ⟨w.heap.size, 2, none⟩ = some (.int .i64 0) := hz2.blk.cell 2
    have z3 : wz.cell? ⟨w.heap.size, 3, none⟩ = some (.int .i64 0) := hz2.blk.cell 3
    have z4 : wz.cell? ⟨w.heap.size, 4, none⟩ = some (.int .i64 0) := hz2.blk.cell 4
    have z5 : wz.cell? ⟨w.heap.size, 5, none⟩ = some (.int .i64 0) := hz2.blk.cell 5
    have z6 : wz.cell? ⟨w.heap.size, 6, none⟩ = some (.slice none 0 0) := hz2.blk.cell 6
    have z7 : wz.cell? ⟨w.heap.size, 7, none⟩ = some (.slice none 0 0) := hz2.blk.cell 7
    have z8 : wz.cell? ⟨w.heap.size, 8, none⟩ = some (.slice none 0 0) := hz2.blk.cell 8
    have z9 : wz.cell? ⟨w.heap.size, 9, none⟩ = some (.slice none 0 0) := hz2.blk.cell 9
    clear hwz hz2
    go_wp2_with (refine wpList_store_mid rfl 38 (.tmp 8) (.tmp 18) rfl w.heap.size 0 #[.int .i64 0, .int .i64 0, .int .i64 0, .int .i64 0, .int .i64 0, .int .i64 0, .slice none 0 0, .slice none 0 0, .slice none 0 0, .slice none 0 0] rfl rfl HThz.out msg_size (one_ten 0 0 0 0 0 0 none none none none 0 0 0 0 0 0 0 0) ?_; rw [HWzz.out])
    refine bodyPost_ret (v := .tuple #[.agg #[.int .i64 0, .int .i64 0, .int .i64 0, .int .i64 0, .int .i64 0, .int .i64 0, .slice none 0 0, .slice none 0 0, .slice none 0 0, .slice none 0 0], .int .i64 0, .bool false]) ?_ ?_ ?_
    case refine_2 => rfl
    case refine_3 => exact ⟨HBz.out, Or.inr ⟨HR.out, rfl⟩⟩
    simp [results, Tryz.results50, go_sem, z0, z1, z2, z3, z4, z5, z6, z7, z8, z9]
  have hle : n ≤ 65536 := by omega
  have HO := Lib.hid (show openS F zs l = (match tkNum zs 0 with
    | some (k, i) => (match parseM (zs.drop i.toNat) with
      | some m => if F m && checkS l (deedM m (zs.drop i.toNat)) k then some (m, k) else none
      | none => none)
    | none => none) from if_pos (by rw [hn]; exact hle))
  have KT := Lib.hid (fun w hh => rtake_num A c zs B 0 (by rw [hn]; exact hl) (by omega) hz w hh)
  rw [hn] at KT
  clear hlen hn hz
  go_enter Tryz.func50, Tryz.ntmps50
  go_wp2_with fail
  refine (KT.out _ HH.out).mono ?_
  rintro e w1 ⟨rfl, ⟨k, i, h1, hi, rfl⟩ | ⟨h1, rfl⟩⟩
  case inr =>
    have HR := Lib.hid (show openS F zs l = none by rw [HO.out, h1])
    clear h1 KT
    obtain ⟨w0, hw0⟩ : ∃ w0, w.alloc (.cells #[.int .i64 0, .int .i64 0, .int .i64 0, .int .i64 0, .int .i64 0, .int .i64 0, .slice none 0 0, .slice none 0 0, .slice none 0 0, .slice none 0 0] 38) = w0 := ⟨_, rfl⟩
    have HLo := HB0
    have HB8 := HBl0
    rw [hw0] at HLo HB8 ⊢
    clear hw0
    go_upto_region 5 with fail
    have HThz := Lib.hid (there_ten HB8.out)
    have hz2 : Hold w (w0.setCells w.heap.size 0 [.int .i64 0, .int .i64 0, .int .i64 0, .int .i64 0, .int .i64 0, .int .i64 0, .slice none 0 0, .slice none 0 0, .slice none 0 0, .slice none 0 0]) ⟨⟨0, 0, 0, 0, 0, 0, [], [], [], []⟩, none, 0, none, 0, none, 0, none, 0⟩ := Hold.fresh (x := ⟨⟨0, 0, 0, 0, 0, 0, [], [], [], []⟩, none, 0, none, 0, none, 0, none, 0⟩) HLo.out HB8.out (Ms.Own.nil _ _ _ _ _ _ _ _)
    obtain ⟨wz, hwz⟩ : ∃ wz, w0.setCells w.heap.size 0 [.int .i64 0, .int .i64 0, .int .i64 0, .int .i64 0, .int .i64 0, .int .i64 0, .slice none 0 0, .slice none 0 0, .slice none 0 0, .slice none 0 0] = wz := ⟨_, rfl⟩
    rw [hwz] at hz2
    have HWzz := Lib.hid hwz
    have HBz := Lib.hid hz2.low
    have z0 : wz.cell? ⟨w.heap.size, 0, none⟩ = some (.int .i64 0) := hz2.blk.cell 0
    have z1 : wz.cell? ⟨w.heap.size, 1, none⟩ = some (.int .i64 0) := hz2.blk.cell 1
    have z2 : wz.cell? ⟨w.heap.size, 2, none⟩ = some (.int .i64 0) := hz2.blk.cell 2
    have z3 : wz.cell? ⟨w.heap.size, 3, none⟩ = some (.int .i64 0) := hz2.blk.cell 3
    have z4 : wz.cell? ⟨w.heap.size, 4, none⟩ = some (.int .i64 0) := hz2.blk.cell 4
    have z5 : wz.cell? ⟨w.heap.size, 5, none⟩ = some (.int .i64 0) := hz2.blk.cell 5
    have z6 : wz.cell? ⟨w.heap.size, 6, none⟩ = some (.slice none 0 0) := hz2.blk.cell 6
    have z7 : wz.cell? ⟨w.heap.size, 7, none⟩ = some (.slice none 0 0) := hz2.blk.cell 7
    have z8 : wz.cell? ⟨w.heap.size, 8, none⟩ = some (.slice none 0 0) := hz2.blk.cell 8
    have z9 : wz.cell? ⟨w.heap.size, 9, none⟩ = some (.slice none 0 0) := hz2.blk.cell 9
    clear hwz hz2
    go_wp2_with (refine wpList_store_mid rfl 38 (.tmp 8) (.tmp 27) rfl w.heap.size 0 #[.int .i64 0, .int .i64 0, .int .i64 0, .int .i64 0, .int .i64 0, .int .i64 0, .slice none 0 0, .slice none 0 0, .slice none 0 0, .slice none 0 0] rfl rfl HThz.out msg_size (one_ten 0 0 0 0 0 0 none none none none 0 0 0 0 0 0 0 0) ?_; rw [HWzz.out])
    refine bodyPost_ret (v := .tuple #[.agg #[.int .i64 0, .int .i64 0, .int .i64 0, .int .i64 0, .int .i64 0, .int .i64 0, .slice none 0 0, .slice none 0 0, .slice none 0 0, .slice none 0 0], .int .i64 0, .bool false]) ?_ ?_ ?_
    case refine_2 => rfl
    case refine_3 => exact ⟨HBz.out, Or.inr ⟨HR.out, rfl⟩⟩
    simp [results, Tryz.results50, go_sem, z0, z1, z2, z3, z4, z5, z6, z7, z8, z9]
  rw [HL.out] at hi
  have HKf := Lib.hid (show fit k from num_small (by obtain ⟨k0, q0, hk0, _⟩ := tkNum_parts HZ.out h1; omega) (tk_less HZ.out h1))
  have HO1 := Lib.hid (show openS F zs l = (match parseM (zs.drop i) with
      | some m => if F m && checkS l (deedM m (zs.drop i)) k then some (m, k) else none
      | none => none) by rw [HO.out, h1]; rfl)
  have R1 := fun (w : World) => bslice_tail (w := w) A (n := n) (c := c) (k := i) hi
  have HT := Lib.hid (bhas_tail HH.out (c := c) (by rw [HL.out]; exact hnc) (k := i) (by rw [HL.out]; exact hi))
  have HTl := Lib.hid (show (zs.drop i).length = n - i by rw [List.length_drop, HL.out])
  have HTz := Lib.hid (show ∀ z ∈ zs.drop i, 0 ≤ z ∧ z ≤ 255 from fun z hz => HZ.out z (List.mem_of_mem_drop hz))
  obtain ⟨ts, hts⟩ : ∃ ts, zs.drop i = ts := ⟨_, rfl⟩
  rw [hts] at HO1 HT HTl HTz
  obtain ⟨T, hT⟩ : ∃ T, btailA A c i = T := ⟨_, rfl⟩
  simp only [hT] at R1
  rw [hT] at HT
  clear h1 KT HO hts hT
  go_wp2_with fail
  refine (rparse_any T (c - i) ts (n - i) HTl.out (by omega) HTz.out _ (HT.out.more (Nat.le_trans hB HB0.out.size))).mono ?_
  rintro e w2 ⟨hb2, hcase⟩
  have HB2 := Lib.hid (HB0.out.trans (hb2.mono HB0.out.size))
  have HBl2 := Lib.hid (HBl0.out.below hb2 HBl0.out.lt)
  have HN2 := Lib.hid (HN.out.below hb2)
  have HT2 := Lib.hid (HT.out.below (hb2.mono (Nat.le_trans hB HB0.out.size)) (Nat.le_refl _))
  have hs0 : w.heap.size + 1 ≤ (w.alloc (.cells #[.int .i64 0, .int .i64 0, .int .i64 0, .int .i64 0, .int .i64 0, .int .i64 0, .slice none 0 0, .slice none 0 0, .slice none 0 0, .slice none 0 0] 38)).heap.size := by simp
  clear hb2
  rcases hcase with ⟨x, hx, rfl, ho⟩ | ⟨hx, rfl⟩
  case inr =>
    have HR := Lib.hid (show openS F zs l = none by rw [HO1.out, hx])
    clear hx R1
    have hb3 : Below w2.heap.size w2 (w2.alloc (.cells #[.int .i64 0, .int .i64 0, .int .i64 0, .int .i64 0, .int .i64 0, .int .i64 0, .slice none 0 0, .slice none 0 0, .slice none 0 0, .slice none 0 0] 38)) := (Below.refl _ w2).alloc (Nat.le_refl _) _
    have HLo3 := Lib.hid (HB2.out.trans (hb3.mono HB2.out.size))
    have HB83 := Lib.hid (HBl2.out.below hb3 HBl2.out.lt)
    have HM3 := Lib.hid (Blk.new w2 38 #[.int .i64 0, .int .i64 0, .int .i64 0, .int .i64 0, .int .i64 0, .int .i64 0, .slice none 0 0, .slice none 0 0, .slice none 0 0, .slice none 0 0])
    go_upto_region 7 with fail
    obtain ⟨w3, hw3⟩ : ∃ w3, w2.alloc (.cells #[.int .i64 0, .int .i64 0, .int .i64 0, .int .i64 0, .int .i64 0, .int .i64 0, .slice none 0 0, .slice none 0 0, .slice none 0 0, .slice none 0 0] 38) = w3 := ⟨_, rfl⟩
    obtain ⟨g3, hg3⟩ : ∃ g, w2.heap.size = g := ⟨_, rfl⟩
    rw [hw3] at HLo3 HB83 HM3
    rw [hg3] at HM3
    rw [hw3, hg3]
    clear hb3 hw3 hg3 HB2 HBl2 HN2 HT2
    refine wp_region_quiet_below (by kernel_rfl) (by kernel_rfl) ?_
    refine wq_out ?_
    iterate 3 (refine wq_do (by kernel_rfl) (fun K hK => ?_); go_simp; refine hK _ ?_; clear hK K)
    iterate 5 (refine wq_skip (by kernel_rfl) ?_)
    iterate 2 (refine wq_do (by kernel_rfl) (fun K hK => ?_); go_simp; refine hK _ ?_; clear hK K)
    iterate 9 (refine wq_skip (by kernel_rfl) ?_)
    refine wq_do (by kernel_rfl) (fun K hK => ?_)
    go_simp
    refine hK _ ?_
    clear hK K
    refine wq_nil ?_
    intro _ hw'
    obtain ⟨⟨dq, osq⟩, hw''⟩ := hw'
    subst hw''
    have HLo := Lib.hid (HLo3.out.trans ((below_regrown w3 dq osq).mono HLo3.out.size))
    have HB8 := Lib.hid (HB83.out.below (below_regrown w3 dq osq) HB83.out.lt)
    have HM4 := Lib.hid (HM3.out.below (below_regrown w3 dq osq) HM3.out.lt)
    have hbq := below_regrown w3 dq osq
    obtain ⟨w4, hw4⟩ : ∃ w4, grow (redrawn w3 dq) osq = w4 := ⟨_, rfl⟩
    rw [hw4] at HLo HB8 HM4 hbq ⊢
    clear hw4 HLo3 HB83 HM3
    clear HM4 hbq
    have HThz := Lib.hid (there_ten HB8.out)
    have hz2 : Hold w (w4.setCells w.heap.size 0 [.int .i64 0, .int .i64 0, .int .i64 0, .int .i64 0, .int .i64 0, .int .i64 0, .slice none 0 0, .slice none 0 0, .slice none 0 0, .slice none 0 0]) ⟨⟨0, 0, 0, 0, 0, 0, [], [], [], []⟩, none, 0, none, 0, none, 0, none, 0⟩ := Hold.fresh (x := ⟨⟨0, 0, 0, 0, 0, 0, [], [], [], []⟩, none, 0, none, 0, none, 0, none, 0⟩) HLo.out HB8.out (Ms.Own.nil _ _ _ _ _ _ _ _)
    obtain ⟨wz, hwz⟩ : ∃ wz, w4.setCells w.heap.size 0 [.int .i64 0, .int .i64 0, .int .i64 0, .int .i64 0, .int .i64 0, .int .i64 0, .slice none 0 0, .slice none 0 0, .slice none 0 0, .slice none 0 0] = wz := ⟨_, rfl⟩
    rw [hwz] at hz2
    have HWzz := Lib.hid hwz
    have HBz := Lib.hid hz2.low
    have z0 : wz.cell? ⟨w.heap.size, 0, none⟩ = some (.int .i64 0) := hz2.blk.cell 0
    have z1 : wz.cell? ⟨w.heap.size, 1, none⟩ = some (.int .i64 0) := hz2.blk.cell 1
    have z2 : wz.cell? ⟨w.heap.size, 2, none⟩ = some (.int .i64 0) := hz2.blk.cell 2
    have z3 : wz.cell? ⟨w.heap.size, 3, none⟩ = some (.int .i64 0) := hz2.blk.cell 3
    have z4 : wz.cell? ⟨w.heap.size, 4, none⟩ = some (.int .i64 0) := hz2.blk.cell 4
    have z5 : wz.cell? ⟨w.heap.size, 5, none⟩ = some (.int .i64 0) := hz2.blk.cell 5
    have z6 : wz.cell? ⟨w.heap.size, 6, none⟩ = some (.slice none 0 0) := hz2.blk.cell 6
    have z7 : wz.cell? ⟨w.heap.size, 7, none⟩ = some (.slice none 0 0) := hz2.blk.cell 7
    have z8 : wz.cell? ⟨w.heap.size, 8, none⟩ = some (.slice none 0 0) := hz2.blk.cell 8
    have z9 : wz.cell? ⟨w.heap.size, 9, none⟩ = some (.slice none 0 0) := hz2.blk.cell 9
    clear hwz hz2
    go_wp2_with (refine wpList_store_mid rfl 38 (.tmp 8) (.tmp 55) rfl w.heap.size 0 #[.int .i64 0, .int .i64 0, .int .i64 0, .int .i64 0, .int .i64 0, .int .i64 0, .slice none 0 0, .slice none 0 0, .slice none 0 0, .slice none 0 0] rfl rfl HThz.out msg_size (one_ten 0 0 0 0 0 0 none none none none 0 0 0 0 0 0 0 0) ?_; rw [HWzz.out])
    refine bodyPost_ret (v := .tuple #[.agg #[.int .i64 0, .int .i64 0, .int .i64 0, .int .i64 0, .int .i64 0, .int .i64 0, .slice none 0 0, .slice none 0 0, .slice none 0 0, .slice none 0 0], .int .i64 0, .bool false]) ?_ ?_ ?_
    case refine_2 => rfl
    case refine_3 => exact ⟨HBz.out, Or.inr ⟨HR.out, rfl⟩⟩
    simp [results, Tryz.results50, go_sem, z0, z1, z2, z3, z4, z5, z6, z7, z8, z9]
  have HX := Lib.hid hx
  have HFr := Lib.hid (parse_from HTz.out hx)
  have HSh := Lib.hid (parse_short HTz.out hx)
  have HCl := Lib.hid (body_cl (body_parse HTz.out hx).1)
  have hb3 : Below w2.heap.size w2 (w2.alloc (.cells #[.int .i64 x.m.kd, .int .i64 x.m.fr, .int .i64 x.m.vw, .int .i64 x.m.ins, .int .i64 x.m.sq, .int .i64 x.m.rs, .slice x.A1 x.m.bt.length x.c1, .slice x.A2 x.m.vs.length x.c2, .slice x.A3 x.m.cs.length x.c3, .slice x.A4 x.m.ps.length x.c4] 38)) := (Below.refl _ w2).alloc (Nat.le_refl _) _
  have HLo3 := Lib.hid (HB2.out.trans (hb3.mono HB2.out.size))
  have HB83 := Lib.hid (HBl2.out.below hb3 HBl2.out.lt)
  have HM3 := Lib.hid (Blk.new w2 38 #[.int .i64 x.m.kd, .int .i64 x.m.fr, .int .i64 x.m.vw, .int .i64 x.m.ins, .int .i64 x.m.sq, .int .i64 x.m.rs, .slice x.A1 x.m.bt.length x.c1, .slice x.A2 x.m.vs.length x.c2, .slice x.A3 x.m.cs.length x.c3, .slice x.A4 x.m.ps.length x.c4])
  have HOw3 := Lib.hid ((ho.base hs0).below hb3)
  have HN3 := Lib.hid (HN2.out.below hb3)
  have HT3 := Lib.hid (HT2.out.below (hb3.mono (Nat.le_trans hB HB2.out.size)) (Nat.le_refl _))
  go_upto_region 7 with fail
  obtain ⟨w3, hw3⟩ : ∃ w3, w2.alloc (.cells #[.int .i64 x.m.kd, .int .i64 x.m.fr, .int .i64 x.m.vw, .int .i64 x.m.ins, .int .i64 x.m.sq, .int .i64 x.m.rs, .slice x.A1 x.m.bt.length x.c1, .slice x.A2 x.m.vs.length x.c2, .slice x.A3 x.m.cs.length x.c3, .slice x.A4 x.m.ps.length x.c4] 38) = w3 := ⟨_, rfl⟩
  obtain ⟨g3, hg3⟩ : ∃ g, w2.heap.size = g := ⟨_, rfl⟩
  rw [hw3] at HLo3 HB83 HM3 HOw3 HN3 HT3
  rw [hg3] at HM3
  rw [hw3, hg3]
  clear hb3 hw3 hg3 hx ho HB2 HBl2 HN2 HT2 hs0
  have KF0 := Lib.hid (fun w' (hw : Below w3.heap.size w3 w') => rform_any x ((HOw3.out.below hw).in_) HSh.out HCl.out f cl)
  rw [show formS x.m f cl = F x.m from HFF.out x.m] at KF0
  cases hF : F x.m
  case false =>
    rw [hF] at KF0
    have HR := Lib.hid (show openS F zs l = none by rw [HO1.out, HX.out]; simp [hF])
    clear hF
    have KF := fun d os => Calls.regrown_of (KF0.out (grow (redrawn w3 d) os) (below_regrown w3 d os))
    obtain ⟨d0, d1, d2, d3, d4, d5, d6, d7, d8, d9⟩ := blk_cells10 HM3.out
    clear KF0 R1
    refine wp_region_quiet_below (by kernel_rfl) (by kernel_rfl) ?_
    refine wq_out ?_
    iterate 6 (refine wq_do (by kernel_rfl) (fun K hK => ?_); go_simp; refine hK _ ?_; clear hK K)
    refine wq_do (by kernel_rfl) (fun K hK => ?_)
    go_simp
    apply Exists.intro
    refine ⟨fun a => ?_, hK _ ?_⟩
    · exact KF a.d a.os
    clear hK K
    iterate 3 (refine wq_do (by kernel_rfl) (fun K hK => ?_); go_simp; refine hK _ ?_; clear hK K)
    iterate 9 (refine wq_skip (by kernel_rfl) ?_)
    refine wq_do (by kernel_rfl) (fun K hK => ?_)
    go_simp
    refine hK _ ?_
    clear hK K
    refine wq_nil ?_
    intro _ hw'
    obtain ⟨⟨dq, osq⟩, hw''⟩ := hw'
    subst hw''
    clear KF d0 d1 d2 d3 d4 d5 d6 d7 d8 d9
    have HLo := Lib.hid (HLo3.out.trans ((below_regrown w3 dq osq).mono HLo3.out.size))
    have HB8 := Lib.hid (HB83.out.below (below_regrown w3 dq osq) HB83.out.lt)
    have HM4 := Lib.hid (HM3.out.below (below_regrown w3 dq osq) HM3.out.lt)
    have hbq := below_regrown w3 dq osq
    obtain ⟨w4, hw4⟩ : ∃ w4, grow (redrawn w3 dq) osq = w4 := ⟨_, rfl⟩
    rw [hw4] at HLo HB8 HM4 hbq ⊢
    clear hw4 HLo3 HB83 HM3
    clear HM4 hbq
    have HThz := Lib.hid (there_ten HB8.out)
    have hz2 : Hold w (w4.setCells w.heap.size 0 [.int .i64 0, .int .i64 0, .int .i64 0, .int .i64 0, .int .i64 0, .int .i64 0, .slice none 0 0, .slice none 0 0, .slice none 0 0, .slice none 0 0]) ⟨⟨0, 0, 0, 0, 0, 0, [], [], [], []⟩, none, 0, none, 0, none, 0, none, 0⟩ := Hold.fresh (x := ⟨⟨0, 0, 0, 0, 0, 0, [], [], [], []⟩, none, 0, none, 0, none, 0, none, 0⟩) HLo.out HB8.out (Ms.Own.nil _ _ _ _ _ _ _ _)
    obtain ⟨wz, hwz⟩ : ∃ wz, w4.setCells w.heap.size 0 [.int .i64 0, .int .i64 0, .int .i64 0, .int .i64 0, .int .i64 0, .int .i64 0, .slice none 0 0, .slice none 0 0, .slice none 0 0, .slice none 0 0] = wz := ⟨_, rfl⟩
    rw [hwz] at hz2
    have HWzz := Lib.hid hwz
    have HBz := Lib.hid hz2.low
    have z0 : wz.cell? ⟨w.heap.size, 0, none⟩ = some (.int .i64 0) := hz2.blk.cell 0
    have z1 : wz.cell? ⟨w.heap.size, 1, none⟩ = some (.int .i64 0) := hz2.blk.cell 1
    have z2 : wz.cell? ⟨w.heap.size, 2, none⟩ = some (.int .i64 0) := hz2.blk.cell 2
    have z3 : wz.cell? ⟨w.heap.size, 3, none⟩ = some (.int .i64 0) := hz2.blk.cell 3
    have z4 : wz.cell? ⟨w.heap.size, 4, none⟩ = some (.int .i64 0) := hz2.blk.cell 4
    have z5 : wz.cell? ⟨w.heap.size, 5, none⟩ = some (.int .i64 0) := hz2.blk.cell 5
    have z6 : wz.cell? ⟨w.heap.size, 6, none⟩ = some (.slice none 0 0) := hz2.blk.cell 6
    have z7 : wz.cell? ⟨w.heap.size, 7, none⟩ = some (.slice none 0 0) := hz2.blk.cell 7
    have z8 : wz.cell? ⟨w.heap.size, 8, none⟩ = some (.slice none 0 0) := hz2.blk.cell 8
    have z9 : wz.cell? ⟨w.heap.size, 9, none⟩ = some (.slice none 0 0) := hz2.blk.cell 9
    clear hwz hz2
    go_wp2_with (refine wpList_store_mid rfl 38 (.tmp 8) (.tmp 55) rfl w.heap.size 0 #[.int .i64 0, .int .i64 0, .int .i64 0, .int .i64 0, .int .i64 0, .int .i64 0, .slice none 0 0, .slice none 0 0, .slice none 0 0, .slice none 0 0] rfl rfl HThz.out msg_size (one_ten 0 0 0 0 0 0 none none none none 0 0 0 0 0 0 0 0) ?_; rw [HWzz.out])
    refine bodyPost_ret (v := .tuple #[.agg #[.int .i64 0, .int .i64 0, .int .i64 0, .int .i64 0, .int .i64 0, .int .i64 0, .slice none 0 0, .slice none 0 0, .slice none 0 0, .slice none 0 0], .int .i64 0, .bool false]) ?_ ?_ ?_
    case refine_2 => rfl
    case refine_3 => exact ⟨HBz.out, Or.inr ⟨HR.out, rfl⟩⟩
    simp [results, Tryz.results50, go_sem, z0, z1, z2, z3, z4, z5, z6, z7, z8, z9]
  rw [hF] at KF0
  have KC0 := Lib.hid (fun w' (hw : Below w3.heap.size w3 w') => (rcheck_any (HN3.out.below hw) HNd.out (p := x.m.fr) (k := k) (c := c - i) HKf.out (HT3.out.below (hw.mono (Nat.le_trans hB HLo3.out.size)) (Nat.le_refl _)) HTl.out).mono (R' := fun e w2 => e = .returned (.bool (checkS l (deedM x.m ts) k)) ∧ Below w'.heap.size w' w2) (fun e w2 h => ⟨h.1, by obtain ⟨m, rfl⟩ := h.2; exact below_drewN (Below.refl _ _) m⟩))
  cases hC : checkS l (deedM x.m ts) k
  case false =>
    rw [hC] at KC0
    have HR := Lib.hid (show openS F zs l = none by rw [HO1.out, HX.out]; simp [hF, hC])
    clear hF hC
    have KF := fun d os => Calls.regrown_of (KF0.out (grow (redrawn w3 d) os) (below_regrown w3 d os))
    have KC := fun d os => Calls.regrown_of (KC0.out (grow (redrawn w3 d) os) (below_regrown w3 d os))
    obtain ⟨d0, d1, d2, d3, d4, d5, d6, d7, d8, d9⟩ := blk_cells10 HM3.out
    clear KF0 KC0
    refine wp_region_quiet_below (by kernel_rfl) (by kernel_rfl) ?_
    refine wq_out ?_
    iterate 6 (refine wq_do (by kernel_rfl) (fun K hK => ?_); go_simp; refine hK _ ?_; clear hK K)
    refine wq_do (by kernel_rfl) (fun K hK => ?_)
    go_simp
    apply Exists.intro
    refine ⟨fun a => ?_, hK _ ?_⟩
    · exact KF a.d a.os
    clear hK K
    iterate 10 (refine wq_do (by kernel_rfl) (fun K hK => ?_); go_simp; refine hK _ ?_; clear hK K)
    refine wq_do (by kernel_rfl) (fun K hK => ?_)
    go_simp
    apply Exists.intro
    refine ⟨fun a => ?_, hK _ ?_⟩
    · exact KC a.d a.os
    clear hK K
    iterate 2 (refine wq_do (by kernel_rfl) (fun K hK => ?_); go_simp; refine hK _ ?_; clear hK K)
    refine wq_nil ?_
    intro _ hw'
    obtain ⟨⟨dq, osq⟩, hw''⟩ := hw'
    subst hw''
    clear KF KC d0 d1 d2 d3 d4 d5 d6 d7 d8 d9 R1
    have HLo := Lib.hid (HLo3.out.trans ((below_regrown w3 dq osq).mono HLo3.out.size))
    have HB8 := Lib.hid (HB83.out.below (below_regrown w3 dq osq) HB83.out.lt)
    have HM4 := Lib.hid (HM3.out.below (below_regrown w3 dq osq) HM3.out.lt)
    have hbq := below_regrown w3 dq osq
    obtain ⟨w4, hw4⟩ : ∃ w4, grow (redrawn w3 dq) osq = w4 := ⟨_, rfl⟩
    rw [hw4] at HLo HB8 HM4 hbq ⊢
    clear hw4 HLo3 HB83 HM3
    clear HM4 hbq
    have HThz := Lib.hid (there_ten HB8.out)
    have hz2 : Hold w (w4.setCells w.heap.size 0 [.int .i64 0, .int .i64 0, .int .i64 0, .int .i64 0, .int .i64 0, .int .i64 0, .slice none 0 0, .slice none 0 0, .slice none 0 0, .slice none 0 0]) ⟨⟨0, 0, 0, 0, 0, 0, [], [], [], []⟩, none, 0, none, 0, none, 0, none, 0⟩ := Hold.fresh (x := ⟨⟨0, 0, 0, 0, 0, 0, [], [], [], []⟩, none, 0, none, 0, none, 0, none, 0⟩) HLo.out HB8.out (Ms.Own.nil _ _ _ _ _ _ _ _)
    obtain ⟨wz, hwz⟩ : ∃ wz, w4.setCells w.heap.size 0 [.int .i64 0, .int .i64 0, .int .i64 0, .int .i64 0, .int .i64 0, .int .i64 0, .slice none 0 0, .slice none 0 0, .slice none 0 0, .slice none 0 0] = wz := ⟨_, rfl⟩
    rw [hwz] at hz2
    have HWzz := Lib.hid hwz
    have HBz := Lib.hid hz2.low
    have z0 : wz.cell? ⟨w.heap.size, 0, none⟩ = some (.int .i64 0) := hz2.blk.cell 0
    have z1 : wz.cell? ⟨w.heap.size, 1, none⟩ = some (.int .i64 0) := hz2.blk.cell 1
    have z2 : wz.cell? ⟨w.heap.size, 2, none⟩ = some (.int .i64 0) := hz2.blk.cell 2
    have z3 : wz.cell? ⟨w.heap.size, 3, none⟩ = some (.int .i64 0) := hz2.blk.cell 3
    have z4 : wz.cell? ⟨w.heap.size, 4, none⟩ = some (.int .i64 0) := hz2.blk.cell 4
    have z5 : wz.cell? ⟨w.heap.size, 5, none⟩ = some (.int .i64 0) := hz2.blk.cell 5
    have z6 : wz.cell? ⟨w.heap.size, 6, none⟩ = some (.slice none 0 0) := hz2.blk.cell 6
    have z7 : wz.cell? ⟨w.heap.size, 7, none⟩ = some (.slice none 0 0) := hz2.blk.cell 7
    have z8 : wz.cell? ⟨w.heap.size, 8, none⟩ = some (.slice none 0 0) := hz2.blk.cell 8
    have z9 : wz.cell? ⟨w.heap.size, 9, none⟩ = some (.slice none 0 0) := hz2.blk.cell 9
    clear hwz hz2
    go_wp2_with (refine wpList_store_mid rfl 38 (.tmp 8) (.tmp 55) rfl w.heap.size 0 #[.int .i64 0, .int .i64 0, .int .i64 0, .int .i64 0, .int .i64 0, .int .i64 0, .slice none 0 0, .slice none 0 0, .slice none 0 0, .slice none 0 0] rfl rfl HThz.out msg_size (one_ten 0 0 0 0 0 0 none none none none 0 0 0 0 0 0 0 0) ?_; rw [HWzz.out])
    refine bodyPost_ret (v := .tuple #[.agg #[.int .i64 0, .int .i64 0, .int .i64 0, .int .i64 0, .int .i64 0, .int .i64 0, .slice none 0 0, .slice none 0 0, .slice none 0 0, .slice none 0 0], .int .i64 0, .bool false]) ?_ ?_ ?_
    case refine_2 => rfl
    case refine_3 => exact ⟨HBz.out, Or.inr ⟨HR.out, rfl⟩⟩
    simp [results, Tryz.results50, go_sem, z0, z1, z2, z3, z4, z5, z6, z7, z8, z9]
  rw [hC] at KC0
  have HR := Lib.hid (show openS F zs l = some (x.m, k) by rw [HO1.out, HX.out]; simp [hF, hC])
  clear hF hC
  have KF := fun d os => Calls.regrown_of (KF0.out (grow (redrawn w3 d) os) (below_regrown w3 d os))
  have KC := fun d os => Calls.regrown_of (KC0.out (grow (redrawn w3 d) os) (below_regrown w3 d os))
  obtain ⟨d0, d1, d2, d3, d4, d5, d6, d7, d8, d9⟩ := blk_cells10 HM3.out
  clear KF0 KC0
  refine wp_region_quiet_below (by kernel_rfl) (by kernel_rfl) ?_
  refine wq_out ?_
  iterate 6 (refine wq_do (by kernel_rfl) (fun K hK => ?_); go_simp; refine hK _ ?_; clear hK K)
  refine wq_do (by kernel_rfl) (fun K hK => ?_)
  go_simp
  apply Exists.intro
  refine ⟨fun a => ?_, hK _ ?_⟩
  · exact KF a.d a.os
  clear hK K
  iterate 10 (refine wq_do (by kernel_rfl) (fun K hK => ?_); go_simp; refine hK _ ?_; clear hK K)
  refine wq_do (by kernel_rfl) (fun K hK => ?_)
  go_simp
  apply Exists.intro
  refine ⟨fun a => ?_, hK _ ?_⟩
  · exact KC a.d a.os
  clear hK K
  iterate 2 (refine wq_do (by kernel_rfl) (fun K hK => ?_); go_simp; refine hK _ ?_; clear hK K)
  refine wq_nil ?_
  intro _ hw'
  obtain ⟨⟨dq, osq⟩, hw''⟩ := hw'
  subst hw''
  clear KF KC d0 d1 d2 d3 d4 d5 d6 d7 d8 d9 R1
  have HLo := Lib.hid (HLo3.out.trans ((below_regrown w3 dq osq).mono HLo3.out.size))
  have HB8 := Lib.hid (HB83.out.below (below_regrown w3 dq osq) HB83.out.lt)
  have HM4 := Lib.hid (HM3.out.below (below_regrown w3 dq osq) HM3.out.lt)
  have hbq := below_regrown w3 dq osq
  obtain ⟨w4, hw4⟩ : ∃ w4, grow (redrawn w3 dq) osq = w4 := ⟨_, rfl⟩
  rw [hw4] at HLo HB8 HM4 hbq ⊢
  clear hw4 HLo3 HB83 HM3
  have hag : Hold w (w4.setCells w.heap.size 0 [.int .i64 x.m.kd, .int .i64 x.m.fr, .int .i64 x.m.vw, .int .i64 x.m.ins, .int .i64 x.m.sq, .int .i64 x.m.rs, .slice x.A1 x.m.bt.length x.c1, .slice x.A2 x.m.vs.length x.c2, .slice x.A3 x.m.cs.length x.c3, .slice x.A4 x.m.ps.length x.c4]) x := Hold.fresh (x := x) HLo.out HB8.out (HOw3.out.below hbq)
  clear hbq HOw3
  have z0 : w4.cell? ⟨g3, 0, none⟩ = some (.int .i64 x.m.kd) := HM4.out.cell 0
  have z1 : w4.cell? ⟨g3, 1, none⟩ = some (.int .i64 x.m.fr) := HM4.out.cell 1
  have z2 : w4.cell? ⟨g3, 2, none⟩ = some (.int .i64 x.m.vw) := HM4.out.cell 2
  have z3 : w4.cell? ⟨g3, 3, none⟩ = some (.int .i64 x.m.ins) := HM4.out.cell 3
  have z4 : w4.cell? ⟨g3, 4, none⟩ = some (.int .i64 x.m.sq) := HM4.out.cell 4
  have z5 : w4.cell? ⟨g3, 5, none⟩ = some (.int .i64 x.m.rs) := HM4.out.cell 5
  have z6 : w4.cell? ⟨g3, 6, none⟩ = some (.slice x.A1 x.m.bt.length x.c1) := HM4.out.cell 6
  have z7 : w4.cell? ⟨g3, 7, none⟩ = some (.slice x.A2 x.m.vs.length x.c2) := HM4.out.cell 7
  have z8 : w4.cell? ⟨g3, 8, none⟩ = some (.slice x.A3 x.m.cs.length x.c3) := HM4.out.cell 8
  have z9 : w4.cell? ⟨g3, 9, none⟩ = some (.slice x.A4 x.m.ps.length x.c4) := HM4.out.cell 9
  have HThz := Lib.hid (there_ten HB8.out)
  obtain ⟨wz, hwz⟩ : ∃ wz, w4.setCells w.heap.size 0 [.int .i64 x.m.kd, .int .i64 x.m.fr, .int .i64 x.m.vw, .int .i64 x.m.ins, .int .i64 x.m.sq, .int .i64 x.m.rs, .slice x.A1 x.m.bt.length x.c1, .slice x.A2 x.m.vs.length x.c2, .slice x.A3 x.m.cs.length x.c3, .slice x.A4 x.m.ps.length x.c4] = wz := ⟨_, rfl⟩
  rw [hwz] at hag
  have HWzz := Lib.hid hwz
  have y0 : wz.cell? ⟨w.heap.size, 0, none⟩ = some (.int .i64 x.m.kd) := hag.blk.cell 0
  have y1 : wz.cell? ⟨w.heap.size, 1, none⟩ = some (.int .i64 x.m.fr) := hag.blk.cell 1
  have y2 : wz.cell? ⟨w.heap.size, 2, none⟩ = some (.int .i64 x.m.vw) := hag.blk.cell 2
  have y3 : wz.cell? ⟨w.heap.size, 3, none⟩ = some (.int .i64 x.m.ins) := hag.blk.cell 3
  have y4 : wz.cell? ⟨w.heap.size, 4, none⟩ = some (.int .i64 x.m.sq) := hag.blk.cell 4
  have y5 : wz.cell? ⟨w.heap.size, 5, none⟩ = some (.int .i64 x.m.rs) := hag.blk.cell 5
  have y6 : wz.cell? ⟨w.heap.size, 6, none⟩ = some (.slice x.A1 x.m.bt.length x.c1) := hag.blk.cell 6
  have y7 : wz.cell? ⟨w.heap.size, 7, none⟩ = some (.slice x.A2 x.m.vs.length x.c2) := hag.blk.cell 7
  have y8 : wz.cell? ⟨w.heap.size, 8, none⟩ = some (.slice x.A3 x.m.cs.length x.c3) := hag.blk.cell 8
  have y9 : wz.cell? ⟨w.heap.size, 9, none⟩ = some (.slice x.A4 x.m.ps.length x.c4) := hag.blk.cell 9
  have HAg := Lib.hid hag
  clear hwz hag
  go_wp2_with (refine wpList_store_mid rfl 38 (.tmp 8) (.tmp 56) rfl w.heap.size 0 #[.int .i64 x.m.kd, .int .i64 x.m.fr, .int .i64 x.m.vw, .int .i64 x.m.ins, .int .i64 x.m.sq, .int .i64 x.m.rs, .slice x.A1 x.m.bt.length x.c1, .slice x.A2 x.m.vs.length x.c2, .slice x.A3 x.m.cs.length x.c3, .slice x.A4 x.m.ps.length x.c4] rfl rfl HThz.out msg_size (one_ten _ _ _ _ _ _ _ _ _ _ _ _ _ _ _ _ _ _) ?_; rw [HWzz.out])
  refine bodyPost_ret (v := .tuple #[.agg #[.int .i64 x.m.kd, .int .i64 x.m.fr, .int .i64 x.m.vw, .int .i64 x.m.ins, .int .i64 x.m.sq, .int .i64 x.m.rs, .slice x.A1 x.m.bt.length x.c1, .slice x.A2 x.m.vs.length x.c2, .slice x.A3 x.m.cs.length x.c3, .slice x.A4 x.m.ps.length x.c4], .int .i64 k, .bool true]) ?_ ?_ ?_
  case refine_2 => rfl
  case refine_3 => exact ⟨HAg.out.low, Or.inl ⟨x, k, HR.out, rfl, HAg.out.own.base (Nat.le_succ _)⟩⟩
  simp [results, Tryz.results50, go_sem, y0, y1, y2, y3, y4, y5, y6, y7, y8, y9]
end Go.Proofs.YtbegjadohamkkaaGreat
