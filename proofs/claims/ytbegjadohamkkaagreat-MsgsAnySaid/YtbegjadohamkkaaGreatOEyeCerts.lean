/- The contracts of the document's own Eye for certificates and for parts. -/
import Derived.Test.YtbegjadohamkkaaGreatOS1
import Derived.Test.YtbegjadohamkkaaGreatOTakeParts
namespace Go.Proofs.YtbegjadohamkkaaGreat
open Go.RowKit

theorem eye_keeps {g : Nat} {X : Value} {st : Option Int} {W W' : World} (ho : Only g W W') (he : EyeHas W g X st) : KeepsRows 186 W W' := fun _ _ _ _ _ _ hne hr => by
  obtain ⟨_, _, hb, _⟩ := he
  exact ho.own hr (own_blk_ne hr hb hne)
section
variable {T : TypeId} {s g n b : Nat} {X : Value} {w W W' : World} {L : Value} {xs : List Value} {cs : Array Value} {st : Option Int}
theorem Eyg.keeps_set (h : Eyg T s g X w W b L n xs cs st) (i : Nat) (v : Value) : KeepsRows T W (W.setCell ⟨b, i, none⟩ v) := fun _ _ _ _ _ _ hne ho =>
  own_far ho (p := ⟨b, i, none⟩) (own_blk_ne ho h.blk hne) v
theorem Eyg.keeps_app (h : Eyg T s g X w W b L n xs cs st) {o : Obj} (hg : (W.alloc o).grownBy W' L.ownBlock) : KeepsRows T W W' := fun _ _ _ _ _ _ hne ho =>
  (ho.alloc o).kept hg (own_apart (ho.alloc o) (h.row.alloc o) hne)
end
theorem OwnParts.nil (w : World) (b : Nat) : OwnParts w b (.slice none 0 0) [] := ⟨[], rfl, World.ownsRow_nil _ _ _ _, by simp⟩

theorem eyed_cert {zs : List Int} {s0 s1 s2 s3 s4 s5 : Option Int} {a0 : Int} {a1 : Int} {a2 : Int} {a3 : List Rq} {a4 : List Vt} (h0 : Eyed (tkNum zs) s0 s1 a0) (h1 : Eyed (tkNum zs) s1 s2 a1) (h2 : Eyed (tkNum zs) s2 s3 a2) (h3 : Eyed (tkBatch zs) s3 s4 a3) (h4 : Eyed (tkVotes zs) s4 s5 a4) : Eyed (tkCert zs) s0 s5 ⟨a0, a1, a2, a3, a4⟩ :=
  Eyed.bind (g := fun x0 j => (tkNum zs j).bind fun y1 => (tkNum zs y1.2).bind fun y2 => (tkBatch zs y2.2).bind fun y3 => (tkVotes zs y3.2).bind fun y4 => some ((⟨x0, y1.1, y2.1, y3.1, y4.1⟩ : Ct), y4.2)) h0 (Eyed.bind (g := fun x1 j => (tkNum zs j).bind fun y2 => (tkBatch zs y2.2).bind fun y3 => (tkVotes zs y3.2).bind fun y4 => some ((⟨a0, x1, y2.1, y3.1, y4.1⟩ : Ct), y4.2)) h1 (Eyed.bind (g := fun x2 j => (tkBatch zs j).bind fun y3 => (tkVotes zs y3.2).bind fun y4 => some ((⟨a0, a1, x2, y3.1, y4.1⟩ : Ct), y4.2)) h2 (Eyed.bind (g := fun x3 j => (tkVotes zs j).bind fun y4 => some ((⟨a0, a1, a2, x3, y4.1⟩ : Ct), y4.2)) h3 (Eyed.bind (g := fun x4 j => some ((⟨a0, a1, a2, a3, x4⟩ : Ct), j)) h4 (Eyed.pure (⟨a0, a1, a2, a3, a4⟩ : Ct) s5)))))
set_option maxHeartbeats 2000000 in
set_option maxRecDepth 100000 in
theorem eye_certs (A : Option Addr) (cap : Nat) (zs : List Int) (B g : Nat) (st : Option Int) (hl : zs.length ≤ 9223372036854775806) (hz : ∀ z ∈ zs, 0 ≤ z ∧ z ≤ 255) (w : World) (hB : B ≤ g) (he : EyeHas w g (.slice A zs.length cap) st) (hh : Has w B A (u8s zs)) :
    Calls Tryz.prog 154 #[.pointer (some ⟨g, 0, none⟩)] w (ListSeen (tkCerts zs) OwnCerts g (.slice A zs.length cap) st w) := by
  have hg := he.lt
  obtain ⟨i0, hinf, hy0, hy1, hy2⟩ := info_parts Tryz.info25
  have HN := Lib.hid (fun w st he hh => eye_number A cap zs B g st hl hz w he hh)
  have HBt := Lib.hid (fun w st he hh => eye_batch A cap zs B g st hl hz w hB he hh)
  have HVt := Lib.hid (fun w st he hh => eye_votes A cap zs B g st hl hz w hB he hh)
  have HH := Lib.hid hh
  have HLn := Lib.hid (eye_list A cap zs B g st hl hz w he hh)
  clear he hh hz hl
  go_enter Tryz.func154, Tryz.ntmps154
  go_wp2_with fail
  refine HLn.out.mono ?_
  rintro e w1 ⟨n, st1, rfl, hn, hf, he, ho, hsz⟩
  have HR0 : Hid (SeenRel (tkCerts zs) (tkCert zs) OwnCerts g (.slice A zs.length cap) st w (.slice none 0 0) (.int .i64 n) w1) := ⟨n, [], st1, rfl, by simpa using hn, ho, he, OwnCerts.nil _ _, Rest.start hf⟩
  clear hf he ho
  go_wp2_with fail
  go_loopw [3, 4] (fun v x wr => SeenRel (tkCerts zs) (tkCert zs) OwnCerts g (.slice A zs.length cap) st w v x wr) (fun _ x _ => (intOf x).toNat)
  case atStart => exact HR0.out
  case round =>
    obtain ⟨n, done, st1, rfl, hn, ho, he, hown, hrest⟩ := hrel
    have hbs := ho.size
    cases st1 with
    | none =>
      have ce := he.bad
      obtain ⟨A2, c2, rfl, _, _⟩ := OwnCerts.slice hown
      have HE : Hid (ListSeen (tkCerts zs) OwnCerts g (.slice A zs.length cap) st w (.returned (.slice A2 done.length c2)) wr) := ⟨done, _, none, rfl, by omega, Rest.bad hrest, hown, he, ho⟩
      clear he ho hown hrest
      by_cases hn0 : n = 0
      · subst hn0
        go_wp2_with fail
        go_ret
        exact HE.out
      · have hpos : (0 : Int) < (n : Int) := by omega
        go_wp2_with fail
        go_ret
        exact HE.out
    | some q =>
      have ce := he.good.1
      by_cases hn0 : n = 0
      · subst hn0
        obtain ⟨A2, c2, rfl, _, _⟩ := OwnCerts.slice hown
        have HE : Hid (ListSeen (tkCerts zs) OwnCerts g (.slice A zs.length cap) st w (.returned (.slice A2 done.length c2)) wr) := ⟨done, _, some q, rfl, by omega, Rest.end_ hrest, hown, he, ho⟩
        clear he ho hown hrest
        go_wp2_with fail
        go_ret
        exact HE.out
      · obtain ⟨m, hm⟩ : ∃ m, n = m + 1 := ⟨n - 1, by omega⟩
        have hpos : (0 : Int) < (n : Int) := by omega
        have hx : (n : Int) - 1 = (m : Int) := by omega
        have hmn : done.length + 1 + m ≤ 256 := by omega
        have hmm : m < n := by omega
        rw [hm] at hrest
        have HRe := Lib.hid hrest
        have HM := Lib.hid hmn
        clear hrest hm
        obtain ⟨Ld, hLd, hrow, hit⟩ := hown
        have hln : Ld.length = done.length := by rw [← hLd]; simp
        have hE0 := Eyg.new (T := 25) (s := 5) ho he hrow hg #[.int .i64 0, .int .i64 0, .int .i64 0, .slice none 0 0, .slice none 0 0]
        have HE0 := Lib.hid hE0
        have HI0 := Lib.hid (fun x hx => (hit x hx).keeps (KeepsRows.below (T := 25) ((Below.refl wr.heap.size wr).alloc (Nat.le_refl _) (.cells #[.int .i64 0, .int .i64 0, .int .i64 0, .slice none 0 0, .slice none 0 0] 25))) (by decide) (by decide))
        have HLd := Lib.hid hLd
        clear ho he hrow hit hE0 hLd
        go_wp2_with fail
        refine (HN.out _ _ HE0.out.eye (HE0.out.only.hasB hB HH.out)).mono ?_
        rintro e w2 ⟨n0, s1, rfl, hf, he, ho, -, _, _⟩
        have HF0 := Lib.hid hf
        have hkE := eye_keeps ho HE0.out.eye
        have hc0 := HE0.out.call ho he
        have hkS := hc0.keeps_set 0 (.int .i64 n0)
        have HI1 := Lib.hid (fun x hx => ((HI0.out x hx).keeps hkE (by decide) (by decide)).keeps hkS (by decide) (by decide))
        have ce0_0 : w2.cell? ⟨wr.heap.size, 0, none⟩ = some (.int .i64 0) := hc0.cell 0
        have fr0 : w2.frozen? ⟨wr.heap.size, 0, none⟩ = false := hc0.frozen 0
        have HE1 := Lib.hid (hc0.set_ 0 (.int .i64 n0))
        have hs0 := hc0.only.size
        clear hf he ho hc0 hkE hkS
        go_wp2_with fail
        refine (HN.out _ _ HE1.out.eye (HE1.out.only.hasB hB HH.out)).mono ?_
        rintro e w3 ⟨n1, s2, rfl, hf, he, ho, -, _, _⟩
        have HF1 := Lib.hid hf
        have hkE := eye_keeps ho HE1.out.eye
        have hc1 := HE1.out.call ho he
        have hkS := hc1.keeps_set 1 (.int .i64 n1)
        have HI2 := Lib.hid (fun x hx => ((HI1.out x hx).keeps hkE (by decide) (by decide)).keeps hkS (by decide) (by decide))
        have ce1_1 : w3.cell? ⟨wr.heap.size, 1, none⟩ = some (.int .i64 0) := hc1.cell 1
        have fr1 : w3.frozen? ⟨wr.heap.size, 1, none⟩ = false := hc1.frozen 1
        have HE2 := Lib.hid (hc1.set_ 1 (.int .i64 n1))
        have hs1 := hc1.only.size
        clear hf he ho hc1 hkE hkS
        go_wp2_with fail
        refine (HN.out _ _ HE2.out.eye (HE2.out.only.hasB hB HH.out)).mono ?_
        rintro e w4 ⟨n2, s3, rfl, hf, he, ho, -, _, _⟩
        have HF2 := Lib.hid hf
        have hkE := eye_keeps ho HE2.out.eye
        have hc2 := HE2.out.call ho he
        have hkS := hc2.keeps_set 2 (.int .i64 n2)
        have HI3 := Lib.hid (fun x hx => ((HI2.out x hx).keeps hkE (by decide) (by decide)).keeps hkS (by decide) (by decide))
        have ce2_2 : w4.cell? ⟨wr.heap.size, 2, none⟩ = some (.int .i64 0) := hc2.cell 2
        have fr2 : w4.frozen? ⟨wr.heap.size, 2, none⟩ = false := hc2.frozen 2
        have HE3 := Lib.hid (hc2.set_ 2 (.int .i64 n2))
        have hs2 := hc2.only.size
        clear hf he ho hc2 hkE hkS
        go_wp2_with fail
        refine (HBt.out _ _ HE3.out.eye (HE3.out.only.hasB hB HH.out)).mono ?_
        rintro e w5 ⟨l3, vv, s4, rfl, hl3, hf, hown, he, ho⟩
        obtain ⟨A3, c3, rfl, _, _⟩ := own_slice hown
        have HF3 := Lib.hid hf
        have hkE := eye_keeps ho HE3.out.eye
        have hc3 := HE3.out.call ho he
        have hkS := hc3.keeps_set 3 (.slice A3 l3.length c3)
        have HO3_3 := Lib.hid (own_keepK (own_base hown HE3.out.only.size) hkS (by decide))
        have HI4 := Lib.hid (fun x hx => ((HI3.out x hx).keeps hkE (by decide) (by decide)).keeps hkS (by decide) (by decide))
        have ce3_3 : w5.cell? ⟨wr.heap.size, 3, none⟩ = some (.slice none 0 0) := hc3.cell 3
        have fr3 : w5.frozen? ⟨wr.heap.size, 3, none⟩ = false := hc3.frozen 3
        have HE4 := Lib.hid (hc3.set_ 3 (.slice A3 l3.length c3))
        have hs3 := hc3.only.size
        clear hf he ho hc3 hkE hkS hown
        go_wp2_with fail
        refine (HVt.out _ _ HE4.out.eye (HE4.out.only.hasB hB HH.out)).mono ?_
        rintro e w6 ⟨l4, vv, s5, rfl, hl4, hf, hown, he, ho⟩
        obtain ⟨A4, c4, rfl, _, _⟩ := own_slice hown
        have HF4 := Lib.hid hf
        have hkE := eye_keeps ho HE4.out.eye
        have hc4 := HE4.out.call ho he
        have hkS := hc4.keeps_set 4 (.slice A4 l4.length c4)
        have HO3_4 := Lib.hid (own_keepK (own_keepK HO3_3.out hkE (by decide)) hkS (by decide))
        have HO4_4 := Lib.hid (own_keepK (own_base hown HE4.out.only.size) hkS (by decide))
        have HI5 := Lib.hid (fun x hx => ((HI4.out x hx).keeps hkE (by decide) (by decide)).keeps hkS (by decide) (by decide))
        have ce4_0 : w6.cell? ⟨wr.heap.size, 0, none⟩ = some (.int .i64 n0) := hc4.cell 0
        have ce4_1 : w6.cell? ⟨wr.heap.size, 1, none⟩ = some (.int .i64 n1) := hc4.cell 1
        have ce4_2 : w6.cell? ⟨wr.heap.size, 2, none⟩ = some (.int .i64 n2) := hc4.cell 2
        have ce4_3 : w6.cell? ⟨wr.heap.size, 3, none⟩ = some (.slice A3 l3.length c3) := hc4.cell 3
        have ce4_4 : w6.cell? ⟨wr.heap.size, 4, none⟩ = some (.slice none 0 0) := hc4.cell 4
        have fr4 : w6.frozen? ⟨wr.heap.size, 4, none⟩ = false := hc4.frozen 4
        have HE5 := Lib.hid (hc4.set_ 4 (.slice A4 l4.length c4))
        have hs4 := hc4.only.size
        clear hf he ho hc4 hkE hkS hown
        go_wp2_with (at_builtin; refine wpList_append_own _ rfl (.tmp 35) (.tmp 37) 35 rfl w.heap.size 25 i0 _ 5 72 Tryz.underlying35 hinf hy0 hy1 hy2 rfl (by decide) _ _ _ rfl (HE5.out.row.alloc _) ⟨w6.heap.size, 0, none⟩ 1 1 [.int .i64 n0, .int .i64 n1, .int .i64 n2, .slice A3 l3.length c3, .slice A4 l4.length c4] rfl rfl ?c1 ?c2 ?c3 ?c4 ?c5 ?_)
        case c1 => exact World.news_of_block (cs := #[.int .i64 n0, .int .i64 n1, .int .i64 n2, .slice A3 l3.length c3, .slice A4 l4.length c4]) (by simpa using heap_alloc_new (w6.setCell ⟨wr.heap.size, 4, none⟩ (.slice A4 l4.length c4)) (.cells #[.int .i64 n0, .int .i64 n1, .int .i64 n2, .slice A3 l3.length c3, .slice A4 l4.length c4] 25))
        case c2 => intro u hu; simp at hu; rcases hu with rfl | rfl | rfl | rfl | rfl <;> rfl
        case c3 => unfold maxLen; omega
        case c4 => omega
        case c5 => simp; omega
        intro L2 w99 ho4 hg4 _
        have HKa := HE5.out.keeps_app hg4
        have HOw : Hid (OwnCerts w99 w.heap.size L2 (done ++ [⟨n0, n1, n2, l3, l4⟩])) := ⟨Ld ++ [(⟨⟨n0, n1, n2, l3, l4⟩, A3, c3, A4, c4⟩ : Cs)], by simp [HLd.out], by rw [List.length_append, List.flatMap_append, hln]; exact ho4, Certs_more (x := (⟨⟨n0, n1, n2, l3, l4⟩, A3, c3, A4, c4⟩ : Cs)) (fun x hx => (HI5.out x hx).keeps HKa (by decide) (by decide)) ⟨own_keepK HO3_4.out HKa (by decide), own_keepK HO4_4.out HKa (by decide)⟩⟩
        have HNx : Hid (SeenRel (tkCerts zs) (tkCert zs) OwnCerts g (.slice A zs.length cap) st w L2 (.int .i64 m) w99) := ⟨m, done ++ [⟨n0, n1, n2, l3, l4⟩], s5, rfl, by have := HM.out; simp; omega, (HE5.out.app hg4).1, (HE5.out.app hg4).2, HOw.out, Rest.step HRe.out (eyed_cert HF0.out HF1.out HF2.out HF3.out HF4.out)⟩
        clear ce HKa HOw ce4_0 ce4_1 ce4_2 ce4_3 ce4_4 ce0_0 ce1_1 ce2_2 ce3_3 fr0 fr1 fr2 fr3 fr4
        clear ho4 hg4
        go_wp2_with fail
        go_roundw
        case rel => exact HNx.out
        case measure => simp [intOf]; omega

theorem eyed_part {zs : List Int} {s0 s1 s2 s3 s4 : Option Int} {a0 : Int} {a1 : List Vt} {a2 : List Ct} {a3 : Int} (h0 : Eyed (tkNum zs) s0 s1 a0) (h1 : Eyed (tkVotes zs) s1 s2 a1) (h2 : Eyed (tkCerts zs) s2 s3 a2) (h3 : Eyed (tkNum zs) s3 s4 a3) : Eyed (tkPart zs) s0 s4 ⟨a0, a1, a2, a3⟩ :=
  Eyed.bind (g := fun x0 j => (tkVotes zs j).bind fun y1 => (tkCerts zs y1.2).bind fun y2 => (tkNum zs y2.2).bind fun y3 => some ((⟨x0, y1.1, y2.1, y3.1⟩ : Pt), y3.2)) h0 (Eyed.bind (g := fun x1 j => (tkCerts zs j).bind fun y2 => (tkNum zs y2.2).bind fun y3 => some ((⟨a0, x1, y2.1, y3.1⟩ : Pt), y3.2)) h1 (Eyed.bind (g := fun x2 j => (tkNum zs j).bind fun y3 => some ((⟨a0, a1, x2, y3.1⟩ : Pt), y3.2)) h2 (Eyed.bind (g := fun x3 j => some ((⟨a0, a1, a2, x3⟩ : Pt), j)) h3 (Eyed.pure (⟨a0, a1, a2, a3⟩ : Pt) s4))))
set_option maxHeartbeats 2000000 in
set_option maxRecDepth 100000 in
theorem eye_parts (A : Option Addr) (cap : Nat) (zs : List Int) (B g : Nat) (st : Option Int) (hl : zs.length ≤ 9223372036854775806) (hz : ∀ z ∈ zs, 0 ≤ z ∧ z ≤ 255) (w : World) (hB : B ≤ g) (he : EyeHas w g (.slice A zs.length cap) st) (hh : Has w B A (u8s zs)) :
    Calls Tryz.prog 155 #[.pointer (some ⟨g, 0, none⟩)] w (ListSeen (tkParts zs) OwnParts g (.slice A zs.length cap) st w) := by
  have hg := he.lt
  obtain ⟨i0, hinf, hy0, hy1, hy2⟩ := info_parts Tryz.info73
  have HN := Lib.hid (fun w st he hh => eye_number A cap zs B g st hl hz w he hh)
  have HVt := Lib.hid (fun w st he hh => eye_votes A cap zs B g st hl hz w hB he hh)
  have HCt := Lib.hid (fun w st he hh => eye_certs A cap zs B g st hl hz w hB he hh)
  have HH := Lib.hid hh
  have HLn := Lib.hid (eye_list A cap zs B g st hl hz w he hh)
  clear he hh hz hl
  go_enter Tryz.func155, Tryz.ntmps155
  go_wp2_with fail
  refine HLn.out.mono ?_
  rintro e w1 ⟨n, st1, rfl, hn, hf, he, ho, hsz⟩
  have HR0 : Hid (SeenRel (tkParts zs) (tkPart zs) OwnParts g (.slice A zs.length cap) st w (.slice none 0 0) (.int .i64 n) w1) := ⟨n, [], st1, rfl, by simpa using hn, ho, he, OwnParts.nil _ _, Rest.start hf⟩
  clear hf he ho
  go_wp2_with fail
  go_loopw [3, 4] (fun v x wr => SeenRel (tkParts zs) (tkPart zs) OwnParts g (.slice A zs.length cap) st w v x wr) (fun _ x _ => (intOf x).toNat)
  case atStart => exact HR0.out
  case round =>
    obtain ⟨n, done, st1, rfl, hn, ho, he, hown, hrest⟩ := hrel
    have hbs := ho.size
    cases st1 with
    | none =>
      have ce := he.bad
      obtain ⟨A2, c2, rfl, _, _⟩ := OwnParts.slice hown
      have HE : Hid (ListSeen (tkParts zs) OwnParts g (.slice A zs.length cap) st w (.returned (.slice A2 done.length c2)) wr) := ⟨done, _, none, rfl, by omega, Rest.bad hrest, hown, he, ho⟩
      clear he ho hown hrest
      by_cases hn0 : n = 0
      · subst hn0
        go_wp2_with fail
        go_ret
        exact HE.out
      · have hpos : (0 : Int) < (n : Int) := by omega
        go_wp2_with fail
        go_ret
        exact HE.out
    | some q =>
      have ce := he.good.1
      by_cases hn0 : n = 0
      · subst hn0
        obtain ⟨A2, c2, rfl, _, _⟩ := OwnParts.slice hown
        have HE : Hid (ListSeen (tkParts zs) OwnParts g (.slice A zs.length cap) st w (.returned (.slice A2 done.length c2)) wr) := ⟨done, _, some q, rfl, by omega, Rest.end_ hrest, hown, he, ho⟩
        clear he ho hown hrest
        go_wp2_with fail
        go_ret
        exact HE.out
      · obtain ⟨m, hm⟩ : ∃ m, n = m + 1 := ⟨n - 1, by omega⟩
        have hpos : (0 : Int) < (n : Int) := by omega
        have hx : (n : Int) - 1 = (m : Int) := by omega
        have hmn : done.length + 1 + m ≤ 256 := by omega
        have hmm : m < n := by omega
        rw [hm] at hrest
        have HRe := Lib.hid hrest
        have HM := Lib.hid hmn
        clear hrest hm
        obtain ⟨Ld, hLd, hrow, hit⟩ := hown
        have hln : Ld.length = done.length := by rw [← hLd]; simp
        have hE0 := Eyg.new (T := 73) (s := 4) ho he hrow hg #[.int .i64 0, .slice none 0 0, .slice none 0 0, .int .i64 0]
        have HE0 := Lib.hid hE0
        have HI0 := Lib.hid (fun x hx => (hit x hx).keeps (KeepsRows.below (T := 73) ((Below.refl wr.heap.size wr).alloc (Nat.le_refl _) (.cells #[.int .i64 0, .slice none 0 0, .slice none 0 0, .int .i64 0] 73))) (by decide) (by decide) (by decide))
        have HLd := Lib.hid hLd
        clear ho he hrow hit hE0 hLd
        go_wp2_with fail
        refine (HN.out _ _ HE0.out.eye (HE0.out.only.hasB hB HH.out)).mono ?_
        rintro e w2 ⟨n0, s1, rfl, hf, he, ho, -, _, _⟩
        have HF0 := Lib.hid hf
        have hkE := eye_keeps ho HE0.out.eye
        have hc0 := HE0.out.call ho he
        have hkS := hc0.keeps_set 0 (.int .i64 n0)
        have HI1 := Lib.hid (fun x hx => ((HI0.out x hx).keeps hkE (by decide) (by decide) (by decide)).keeps hkS (by decide) (by decide) (by decide))
        have ce0_0 : w2.cell? ⟨wr.heap.size, 0, none⟩ = some (.int .i64 0) := hc0.cell 0
        have fr0 : w2.frozen? ⟨wr.heap.size, 0, none⟩ = false := hc0.frozen 0
        have HE1 := Lib.hid (hc0.set_ 0 (.int .i64 n0))
        have hs0 := hc0.only.size
        clear hf he ho hc0 hkE hkS
        go_wp2_with fail
        refine (HVt.out _ _ HE1.out.eye (HE1.out.only.hasB hB HH.out)).mono ?_
        rintro e w3 ⟨l1, vv, s2, rfl, hl1, hf, hown, he, ho⟩
        obtain ⟨A1, c1, rfl, _, _⟩ := own_slice hown
        have HF1 := Lib.hid hf
        have hkE := eye_keeps ho HE1.out.eye
        have hc1 := HE1.out.call ho he
        have hkS := hc1.keeps_set 1 (.slice A1 l1.length c1)
        have HO1_1 := Lib.hid (own_keepK (own_base hown HE1.out.only.size) hkS (by decide))
        have HI2 := Lib.hid (fun x hx => ((HI1.out x hx).keeps hkE (by decide) (by decide) (by decide)).keeps hkS (by decide) (by decide) (by decide))
        have ce1_1 : w3.cell? ⟨wr.heap.size, 1, none⟩ = some (.slice none 0 0) := hc1.cell 1
        have fr1 : w3.frozen? ⟨wr.heap.size, 1, none⟩ = false := hc1.frozen 1
        have HE2 := Lib.hid (hc1.set_ 1 (.slice A1 l1.length c1))
        have hs1 := hc1.only.size
        clear hf he ho hc1 hkE hkS hown
        go_wp2_with fail
        refine (HCt.out _ _ HE2.out.eye (HE2.out.only.hasB hB HH.out)).mono ?_
        rintro e w4 ⟨l2, vv, s3, rfl, hl2, hf, hown, he, ho⟩
        obtain ⟨A2, c2, rfl, _, _⟩ := OwnCerts.slice hown
        have HF2 := Lib.hid hf
        have hkE := eye_keeps ho HE2.out.eye
        have hc2 := HE2.out.call ho he
        have hkS := hc2.keeps_set 2 (.slice A2 l2.length c2)
        have HO1_2 := Lib.hid (own_keepK (own_keepK HO1_1.out hkE (by decide)) hkS (by decide))
        have HO2_2 := Lib.hid ((ownCerts_b hown HE2.out.only.size).keeps hkS (by decide) (by decide) (by decide))
        have HI3 := Lib.hid (fun x hx => ((HI2.out x hx).keeps hkE (by decide) (by decide) (by decide)).keeps hkS (by decide) (by decide) (by decide))
        have ce2_2 : w4.cell? ⟨wr.heap.size, 2, none⟩ = some (.slice none 0 0) := hc2.cell 2
        have fr2 : w4.frozen? ⟨wr.heap.size, 2, none⟩ = false := hc2.frozen 2
        have HE3 := Lib.hid (hc2.set_ 2 (.slice A2 l2.length c2))
        have hs2 := hc2.only.size
        clear hf he ho hc2 hkE hkS hown
        go_wp2_with fail
        refine (HN.out _ _ HE3.out.eye (HE3.out.only.hasB hB HH.out)).mono ?_
        rintro e w5 ⟨n3, s4, rfl, hf, he, ho, -, _, _⟩
        have HF3 := Lib.hid hf
        have hkE := eye_keeps ho HE3.out.eye
        have hc3 := HE3.out.call ho he
        have hkS := hc3.keeps_set 3 (.int .i64 n3)
        have HO1_3 := Lib.hid (own_keepK (own_keepK HO1_2.out hkE (by decide)) hkS (by decide))
        have HO2_3 := Lib.hid ((HO2_2.out.keeps hkE (by decide) (by decide) (by decide)).keeps hkS (by decide) (by decide) (by decide))
        have HI4 := Lib.hid (fun x hx => ((HI3.out x hx).keeps hkE (by decide) (by decide) (by decide)).keeps hkS (by decide) (by decide) (by decide))
        have ce3_0 : w5.cell? ⟨wr.heap.size, 0, none⟩ = some (.int .i64 n0) := hc3.cell 0
        have ce3_1 : w5.cell? ⟨wr.heap.size, 1, none⟩ = some (.slice A1 l1.length c1) := hc3.cell 1
        have ce3_2 : w5.cell? ⟨wr.heap.size, 2, none⟩ = some (.slice A2 l2.length c2) := hc3.cell 2
        have ce3_3 : w5.cell? ⟨wr.heap.size, 3, none⟩ = some (.int .i64 0) := hc3.cell 3
        have fr3 : w5.frozen? ⟨wr.heap.size, 3, none⟩ = false := hc3.frozen 3
        have HE4 := Lib.hid (hc3.set_ 3 (.int .i64 n3))
        have hs3 := hc3.only.size
        clear hf he ho hc3 hkE hkS
        go_wp2_with (at_builtin; refine wpList_append_own _ rfl (.tmp 32) (.tmp 34) 36 rfl w.heap.size 73 i0 _ 4 64 Tryz.underlying36 hinf hy0 hy1 hy2 rfl (by decide) _ _ _ rfl (HE4.out.row.alloc _) ⟨w5.heap.size, 0, none⟩ 1 1 [.int .i64 n0, .slice A1 l1.length c1, .slice A2 l2.length c2, .int .i64 n3] rfl rfl ?c1 ?c2 ?c3 ?c4 ?c5 ?_)
        case c1 => exact World.news_of_block (cs := #[.int .i64 n0, .slice A1 l1.length c1, .slice A2 l2.length c2, .int .i64 n3]) (by simpa using heap_alloc_new (w5.setCell ⟨wr.heap.size, 3, none⟩ (.int .i64 n3)) (.cells #[.int .i64 n0, .slice A1 l1.length c1, .slice A2 l2.length c2, .int .i64 n3] 73))
        case c2 => intro u hu; simp at hu; rcases hu with rfl | rfl | rfl | rfl <;> rfl
        case c3 => unfold maxLen; omega
        case c4 => omega
        case c5 => simp; omega
        intro L2 w99 ho4 hg4 _
        have HKa := HE4.out.keeps_app hg4
        have HOw : Hid (OwnParts w99 w.heap.size L2 (done ++ [⟨n0, l1, l2, n3⟩])) := ⟨Ld ++ [(⟨⟨n0, l1, l2, n3⟩, A1, c1, A2, c2⟩ : Ps)], by simp [HLd.out], by rw [List.length_append, List.flatMap_append, hln]; exact ho4, Parts_more (x := (⟨⟨n0, l1, l2, n3⟩, A1, c1, A2, c2⟩ : Ps)) (fun x hx => (HI4.out x hx).keeps HKa (by decide) (by decide) (by decide)) ⟨own_keepK HO1_3.out HKa (by decide), HO2_3.out.keeps HKa (by decide) (by decide) (by decide)⟩⟩
        have HNx : Hid (SeenRel (tkParts zs) (tkPart zs) OwnParts g (.slice A zs.length cap) st w L2 (.int .i64 m) w99) := ⟨m, done ++ [⟨n0, l1, l2, n3⟩], s4, rfl, by have := HM.out; simp; omega, (HE4.out.app hg4).1, (HE4.out.app hg4).2, HOw.out, Rest.step HRe.out (eyed_part HF0.out HF1.out HF2.out HF3.out)⟩
        clear ce HKa HOw ce3_0 ce3_1 ce3_2 ce3_3 ce0_0 ce1_1 ce2_2 fr0 fr1 fr2 fr3
        clear ho4 hg4
        go_wp2_with fail
        go_roundw
        case rel => exact HNx.out
        case measure => simp [intOf]; omega

end Go.Proofs.YtbegjadohamkkaaGreat
