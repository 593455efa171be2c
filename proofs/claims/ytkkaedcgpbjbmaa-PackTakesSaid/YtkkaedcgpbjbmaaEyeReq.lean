/- The contract of the document's own Eye for a request. -/
import Derived.Test.YtkkaedcgpbjbmaaEyeVotes
import Derived.Test.YtkkaedcgpbjbmaaTakeBatch
namespace Go.Proofs.Ytkkaedcgpbjbmaa
open Go.RowKit

theorem eyed_sgn {zs : List Int} {st st1 : Option Int} {n : Int} (h : Eyed (tkNum zs) st st1 n) : Eyed (tkSgn zs) st st1 (zagS n) := by
  cases st with
  | none => exact h
  | some p =>
    rcases eyed_num_cases h with ⟨h1, rfl⟩ | ⟨v, h1, rfl, rfl⟩
    · have e : tkSgn zs p = none := by simp only [tkSgn, h1]
      simp only [Eyed, e]
    · have e : tkSgn zs p = some (zagS (v.1 : Int), ((v.2 : Nat) : Int)) := by simp only [tkSgn, h1]
      simp only [Eyed, e, and_self]
theorem eyed_req {zs : List Int} {s0 s1 s2 s3 s4 s5 s6 : Option Int} {a0 a1 a2 a3 a4 a5 : Int} (h0 : Eyed (tkNum zs) s0 s1 a0) (h1 : Eyed (tkNum zs) s1 s2 a1) (h2 : Eyed (tkNum zs) s2 s3 a2) (h3 : Eyed (tkSgn zs) s3 s4 a3) (h4 : Eyed (tkSgn zs) s4 s5 a4) (h5 : Eyed (tkNum zs) s5 s6 a5) : Eyed (tkReq zs) s0 s6 ⟨a0, a1, a2, a3, a4, a5⟩ :=
  Eyed.bind (g := fun x0 j => (tkNum zs j).bind fun y1 => (tkNum zs y1.2).bind fun y2 => (tkSgn zs y2.2).bind fun y3 => (tkSgn zs y3.2).bind fun y4 => (tkNum zs y4.2).bind fun y5 => some ((⟨x0, y1.1, y2.1, y3.1, y4.1, y5.1⟩ : Rq), y5.2)) h0 (Eyed.bind (g := fun x1 j => (tkNum zs j).bind fun y2 => (tkSgn zs y2.2).bind fun y3 => (tkSgn zs y3.2).bind fun y4 => (tkNum zs y4.2).bind fun y5 => some ((⟨a0, x1, y2.1, y3.1, y4.1, y5.1⟩ : Rq), y5.2)) h1 (Eyed.bind (g := fun x2 j => (tkSgn zs j).bind fun y3 => (tkSgn zs y3.2).bind fun y4 => (tkNum zs y4.2).bind fun y5 => some ((⟨a0, a1, x2, y3.1, y4.1, y5.1⟩ : Rq), y5.2)) h2 (Eyed.bind (g := fun x3 j => (tkSgn zs j).bind fun y4 => (tkNum zs y4.2).bind fun y5 => some ((⟨a0, a1, a2, x3, y4.1, y5.1⟩ : Rq), y5.2)) h3 (Eyed.bind (g := fun x4 j => (tkNum zs j).bind fun y5 => some ((⟨a0, a1, a2, a3, x4, y5.1⟩ : Rq), y5.2)) h4 (Eyed.bind (g := fun x5 j => some ((⟨a0, a1, a2, a3, a4, x5⟩ : Rq), j)) h5 (Eyed.pure (⟨a0, a1, a2, a3, a4, a5⟩ : Rq) s6))))))
theorem Only.new_ {g : Nat} {w W : World} (h : Only g w W) {p : Addr} (hb : w.heap.size ≤ p.block) (v : Value) : Only g w (W.setCell p v) :=
  ⟨h.os, h.tape, h.output, by simpa using h.size, fun k hk hne => (Below.heap_setCell W p v k (by omega)).trans (h.block k hk hne)⟩
theorem only_six {g b : Nat} {w W : World} (h : Only g w W) (hb : w.heap.size ≤ b) (b0 b1 b2 b3 b4 b5 : Value) : Only g w (W.setCells b 0 [b0, b1, b2, b3, b4, b5]) :=
  (((((h.new_ (p := ⟨b, 0, none⟩) hb b0).new_ (p := ⟨b, 1, none⟩) hb b1).new_ (p := ⟨b, 2, none⟩) hb b2).new_ (p := ⟨b, 3, none⟩) hb b3).new_ (p := ⟨b, 4, none⟩) hb b4).new_ (p := ⟨b, 5, none⟩) hb b5
theorem eye_six {g b : Nat} {W : World} {X : Value} {st : Option Int} (h : EyeHas W g X st) (hb : g ≠ b) (b0 b1 b2 b3 b4 b5 : Value) : EyeHas (W.setCells b 0 [b0, b1, b2, b3, b4, b5]) g X st :=
  (((((h.far (p := ⟨b, 0, none⟩) hb b0).far (p := ⟨b, 1, none⟩) hb b1).far (p := ⟨b, 2, none⟩) hb b2).far (p := ⟨b, 3, none⟩) hb b3).far (p := ⟨b, 4, none⟩) hb b4).far (p := ⟨b, 5, none⟩) hb b5
/-- What a call of the Eye's for a request does. -/
def ReqSeen (zs : List Int) (g : Nat) (X : Value) (st : Option Int) (w : World) (e : Ending) (w' : World) : Prop :=
  ∃ (r : Rq) (st' : Option Int), e = .returned (.agg #[.int .i64 r.cl, .int .i64 r.tm, .int .i64 r.kd, .int .i64 r.ky, .int .i64 r.vl, .int .i64 r.sg]) ∧ Eyed (tkReq zs) st st' r ∧ EyeHas w' g X st' ∧ Only g w w'
set_option maxHeartbeats 2000000 in
set_option maxRecDepth 100000 in
theorem eye_req (A : Option Addr) (cap : Nat) (zs : List Int) (B g : Nat) (st : Option Int) (hl : zs.length ≤ 9223372036854775806) (hz : ∀ z ∈ zs, 0 ≤ z ∧ z ≤ 255) (w : World) (hB : B ≤ g) (he : EyeHas w g (.slice A zs.length cap) st) (hh : Has w B A (u8s zs)) :
    Calls Try.prog 39 #[.pointer (some ⟨g, 0, none⟩)] w (ReqSeen zs g (.slice A zs.length cap) st w) := by
  have hg := he.lt
  have HN := Lib.hid (fun w st he hh => eye_number A cap zs B g st hl hz w he hh)
  have HH := Lib.hid hh
  have he0 := (Eyg.new (T := 31) (s := 6) ((Only.refl g w).alloc (.cells #[.int .i64 0, .int .i64 0, .int .i64 0, .int .i64 0, .int .i64 0, .int .i64 0] 31)) (he.alloc _) (World.ownsRow_nil _ _ _ _) hg #[.int .i64 0, .int .i64 0, .int .i64 0, .int .i64 0, .int .i64 0, .int .i64 0])
  rw [World.size_alloc] at he0
  have HE0 := Lib.hid he0
  have HR0 := Lib.hid ((Blk.new w 31 #[.int .i64 0, .int .i64 0, .int .i64 0, .int .i64 0, .int .i64 0, .int .i64 0]).alloc (.cells #[.int .i64 0, .int .i64 0, .int .i64 0, .int .i64 0, .int .i64 0, .int .i64 0] 31))
  clear he hh hz hl he0
  go_enter Try.func39, Try.ntmps39
  go_wp2_with fail
  refine (HN.out _ st HE0.out.eye (HE0.out.only.hasB hB HH.out)).mono ?_
  rintro e w1 ⟨n0, s1, rfl, hf, he, ho, hsz, _, _⟩
  have HF0 := Lib.hid hf
  have hc0 := HE0.out.call ho he
  have hr0 := ho.blk HR0.out (by omega)
  have HC0 := Lib.hid hc0
  have ce0_0 : w1.cell? ⟨w.heap.size + 1, 0, none⟩ = some (.int .i64 0) := by simpa using hc0.cell 0
  have ce0_1 : w1.cell? ⟨w.heap.size + 1, 1, none⟩ = some (.int .i64 0) := by simpa using hc0.cell 1
  have ce0_2 : w1.cell? ⟨w.heap.size + 1, 2, none⟩ = some (.int .i64 0) := by simpa using hc0.cell 2
  have ce0_3 : w1.cell? ⟨w.heap.size + 1, 3, none⟩ = some (.int .i64 0) := by simpa using hc0.cell 3
  have ce0_4 : w1.cell? ⟨w.heap.size + 1, 4, none⟩ = some (.int .i64 0) := by simpa using hc0.cell 4
  have ce0_5 : w1.cell? ⟨w.heap.size + 1, 5, none⟩ = some (.int .i64 0) := by simpa using hc0.cell 5
  have fr0 : w1.frozen? ⟨w.heap.size + 1, 0, none⟩ = false := by simpa using hc0.frozen 0
  clear hf ho he hc0
  have HE1 := Lib.hid (HC0.out.set_ 0 (.int .i64 n0))
  have HR1 := Lib.hid (hr0.far (p := ⟨w.heap.size + 1, 0, none⟩) (by simp) (.int .i64 n0))
  clear hr0
  go_wp2_with fail
  refine (HN.out _ s1 HE1.out.eye (HE1.out.only.hasB hB HH.out)).mono ?_
  rintro e w2 ⟨n1, s2, rfl, hf, he, ho, hsz, _, _⟩
  have HF1 := Lib.hid hf
  have hc1 := HE1.out.call ho he
  have hr1 := ho.blk HR1.out (by omega)
  have HC1 := Lib.hid hc1
  have ce1_0 : w2.cell? ⟨w.heap.size + 1, 0, none⟩ = some (.int .i64 n0) := by simpa using hc1.cell 0
  have ce1_1 : w2.cell? ⟨w.heap.size + 1, 1, none⟩ = some (.int .i64 0) := by simpa using hc1.cell 1
  have ce1_2 : w2.cell? ⟨w.heap.size + 1, 2, none⟩ = some (.int .i64 0) := by simpa using hc1.cell 2
  have ce1_3 : w2.cell? ⟨w.heap.size + 1, 3, none⟩ = some (.int .i64 0) := by simpa using hc1.cell 3
  have ce1_4 : w2.cell? ⟨w.heap.size + 1, 4, none⟩ = some (.int .i64 0) := by simpa using hc1.cell 4
  have ce1_5 : w2.cell? ⟨w.heap.size + 1, 5, none⟩ = some (.int .i64 0) := by simpa using hc1.cell 5
  have fr1 : w2.frozen? ⟨w.heap.size + 1, 1, none⟩ = false := by simpa using hc1.frozen 1
  clear hf ho he hc1
  have HE2 := Lib.hid (HC1.out.set_ 1 (.int .i64 n1))
  have HR2 := Lib.hid (hr1.far (p := ⟨w.heap.size + 1, 1, none⟩) (by simp) (.int .i64 n1))
  clear hr1
  go_wp2_with fail
  refine (HN.out _ s2 HE2.out.eye (HE2.out.only.hasB hB HH.out)).mono ?_
  rintro e w3 ⟨n2, s3, rfl, hf, he, ho, hsz, _, _⟩
  have HF2 := Lib.hid hf
  have hc2 := HE2.out.call ho he
  have hr2 := ho.blk HR2.out (by omega)
  have HC2 := Lib.hid hc2
  have ce2_0 : w3.cell? ⟨w.heap.size + 1, 0, none⟩ = some (.int .i64 n0) := by simpa using hc2.cell 0
  have ce2_1 : w3.cell? ⟨w.heap.size + 1, 1, none⟩ = some (.int .i64 n1) := by simpa using hc2.cell 1
  have ce2_2 : w3.cell? ⟨w.heap.size + 1, 2, none⟩ = some (.int .i64 0) := by simpa using hc2.cell 2
  have ce2_3 : w3.cell? ⟨w.heap.size + 1, 3, none⟩ = some (.int .i64 0) := by simpa using hc2.cell 3
  have ce2_4 : w3.cell? ⟨w.heap.size + 1, 4, none⟩ = some (.int .i64 0) := by simpa using hc2.cell 4
  have ce2_5 : w3.cell? ⟨w.heap.size + 1, 5, none⟩ = some (.int .i64 0) := by simpa using hc2.cell 5
  have fr2 : w3.frozen? ⟨w.heap.size + 1, 2, none⟩ = false := by simpa using hc2.frozen 2
  clear hf ho he hc2
  have HE3 := Lib.hid (HC2.out.set_ 2 (.int .i64 n2))
  have HR3 := Lib.hid (hr2.far (p := ⟨w.heap.size + 1, 2, none⟩) (by simp) (.int .i64 n2))
  clear hr2
  go_wp2_with fail
  refine (HN.out _ s3 HE3.out.eye (HE3.out.only.hasB hB HH.out)).mono ?_
  rintro e w4 ⟨n3, s4, rfl, hf, he, ho, hsz, _, _⟩
  have HF3 := Lib.hid hf
  have hc3 := HE3.out.call ho he
  have hr3 := ho.blk HR3.out (by omega)
  have HC3 := Lib.hid hc3
  have ce3_0 : w4.cell? ⟨w.heap.size + 1, 0, none⟩ = some (.int .i64 n0) := by simpa using hc3.cell 0
  have ce3_1 : w4.cell? ⟨w.heap.size + 1, 1, none⟩ = some (.int .i64 n1) := by simpa using hc3.cell 1
  have ce3_2 : w4.cell? ⟨w.heap.size + 1, 2, none⟩ = some (.int .i64 n2) := by simpa using hc3.cell 2
  have ce3_3 : w4.cell? ⟨w.heap.size + 1, 3, none⟩ = some (.int .i64 0) := by simpa using hc3.cell 3
  have ce3_4 : w4.cell? ⟨w.heap.size + 1, 4, none⟩ = some (.int .i64 0) := by simpa using hc3.cell 4
  have ce3_5 : w4.cell? ⟨w.heap.size + 1, 5, none⟩ = some (.int .i64 0) := by simpa using hc3.cell 5
  have fr3 : w4.frozen? ⟨w.heap.size + 1, 3, none⟩ = false := by simpa using hc3.frozen 3
  have HZ3 := Lib.hid (fun w => refzag_any n3 w)
  clear hf ho he hc3
  go_wp2_with fail
  refine (HZ3.out _).mono ?_
  rintro e wz ⟨rfl, rfl⟩
  have HE4 := Lib.hid (HC3.out.set_ 3 (.int .i64 (zagS n3)))
  have HR4 := Lib.hid (hr3.far (p := ⟨w.heap.size + 1, 3, none⟩) (by simp) (.int .i64 (zagS n3)))
  clear hr3
  go_wp2_with fail
  refine (HN.out _ s4 HE4.out.eye (HE4.out.only.hasB hB HH.out)).mono ?_
  rintro e w5 ⟨n4, s5, rfl, hf, he, ho, hsz, _, _⟩
  have HF4 := Lib.hid hf
  have hc4 := HE4.out.call ho he
  have hr4 := ho.blk HR4.out (by omega)
  have HC4 := Lib.hid hc4
  have ce4_0 : w5.cell? ⟨w.heap.size + 1, 0, none⟩ = some (.int .i64 n0) := by simpa using hc4.cell 0
  have ce4_1 : w5.cell? ⟨w.heap.size + 1, 1, none⟩ = some (.int .i64 n1) := by simpa using hc4.cell 1
  have ce4_2 : w5.cell? ⟨w.heap.size + 1, 2, none⟩ = some (.int .i64 n2) := by simpa using hc4.cell 2
  have ce4_3 : w5.cell? ⟨w.heap.size + 1, 3, none⟩ = some (.int .i64 (zagS n3)) := by simpa using hc4.cell 3
  have ce4_4 : w5.cell? ⟨w.heap.size + 1, 4, none⟩ = some (.int .i64 0) := by simpa using hc4.cell 4
  have ce4_5 : w5.cell? ⟨w.heap.size + 1, 5, none⟩ = some (.int .i64 0) := by simpa using hc4.cell 5
  have fr4 : w5.frozen? ⟨w.heap.size + 1, 4, none⟩ = false := by simpa using hc4.frozen 4
  have HZ4 := Lib.hid (fun w => refzag_any n4 w)
  clear hf ho he hc4
  go_wp2_with fail
  refine (HZ4.out _).mono ?_
  rintro e wz ⟨rfl, rfl⟩
  have HE5 := Lib.hid (HC4.out.set_ 4 (.int .i64 (zagS n4)))
  have HR5 := Lib.hid (hr4.far (p := ⟨w.heap.size + 1, 4, none⟩) (by simp) (.int .i64 (zagS n4)))
  clear hr4
  go_wp2_with fail
  refine (HN.out _ s5 HE5.out.eye (HE5.out.only.hasB hB HH.out)).mono ?_
  rintro e w6 ⟨n5, s6, rfl, hf, he, ho, hsz, _, _⟩
  have HF5 := Lib.hid hf
  have hc5 := HE5.out.call ho he
  have hr5 := ho.blk HR5.out (by omega)
  have HC5 := Lib.hid hc5
  have ce5_0 : w6.cell? ⟨w.heap.size + 1, 0, none⟩ = some (.int .i64 n0) := by simpa using hc5.cell 0
  have ce5_1 : w6.cell? ⟨w.heap.size + 1, 1, none⟩ = some (.int .i64 n1) := by simpa using hc5.cell 1
  have ce5_2 : w6.cell? ⟨w.heap.size + 1, 2, none⟩ = some (.int .i64 n2) := by simpa using hc5.cell 2
  have ce5_3 : w6.cell? ⟨w.heap.size + 1, 3, none⟩ = some (.int .i64 (zagS n3)) := by simpa using hc5.cell 3
  have ce5_4 : w6.cell? ⟨w.heap.size + 1, 4, none⟩ = some (.int .i64 (zagS n4)) := by simpa using hc5.cell 4
  have ce5_5 : w6.cell? ⟨w.heap.size + 1, 5, none⟩ = some (.int .i64 0) := by simpa using hc5.cell 5
  have fr5 : w6.frozen? ⟨w.heap.size + 1, 5, none⟩ = false := by simpa using hc5.frozen 5
  clear hf ho he hc5
  have HE6 := Lib.hid (HC5.out.set_ 5 (.int .i64 n5))
  have HR6 := Lib.hid (hr5.far (p := ⟨w.heap.size + 1, 5, none⟩) (by simp) (.int .i64 n5))
  clear hr5
  have he6 := HE6.out
  have hr6 := HR6.out
  obtain ⟨w8, hw8⟩ : ∃ w8, (w6.setCell ⟨w.heap.size + 1, 5, none⟩ (.int .i64 n5)).setCells w.heap.size 0 [.int .i64 n0, .int .i64 n1, .int .i64 n2, .int .i64 (zagS n3), .int .i64 (zagS n4), .int .i64 n5] = w8 := ⟨_, rfl⟩
  have hblk8 : Blk w8 w.heap.size 31 #[.int .i64 n0, .int .i64 n1, .int .i64 n2, .int .i64 (zagS n3), .int .i64 (zagS n4), .int .i64 n5] := by rw [← hw8]; exact blk_six hr6 _ _ _ _ _ _
  have HR : Hid (ReqSeen zs g (.slice A zs.length cap) st w (.returned (.agg #[.int .i64 n0, .int .i64 n1, .int .i64 n2, .int .i64 (zagS n3), .int .i64 (zagS n4), .int .i64 n5])) w8) := ⟨⟨n0, n1, n2, zagS n3, zagS n4, n5⟩, s6, rfl, eyed_req HF0.out HF1.out HF2.out (eyed_sgn HF3.out) (eyed_sgn HF4.out) HF5.out, by rw [← hw8]; exact eye_six he6.eye (by omega) _ _ _ _ _ _, by rw [← hw8]; exact only_six he6.only (Nat.le_refl _) _ _ _ _ _ _⟩
  have HTh := Lib.hid (there_six hr6)
  have HW8 := Lib.hid hw8
  have de0 : w8.cell? ⟨w.heap.size, 0, none⟩ = some (.int .i64 n0) := hblk8.cell 0
  have de1 : w8.cell? ⟨w.heap.size, 1, none⟩ = some (.int .i64 n1) := hblk8.cell 1
  have de2 : w8.cell? ⟨w.heap.size, 2, none⟩ = some (.int .i64 n2) := hblk8.cell 2
  have de3 : w8.cell? ⟨w.heap.size, 3, none⟩ = some (.int .i64 (zagS n3)) := hblk8.cell 3
  have de4 : w8.cell? ⟨w.heap.size, 4, none⟩ = some (.int .i64 (zagS n4)) := hblk8.cell 4
  have de5 : w8.cell? ⟨w.heap.size, 5, none⟩ = some (.int .i64 n5) := hblk8.cell 5
  clear hw8 he6 hr6 hblk8
  go_wp2_with (refine wpList_store_mid rfl 31 (.tmp 2) (.tmp 28) rfl w.heap.size 0 #[.int .i64 n0, .int .i64 n1, .int .i64 n2, .int .i64 (zagS n3), .int .i64 (zagS n4), .int .i64 n5] rfl rfl HTh.out req_size (one_six _ _ _ _ _ _) ?_; rw [HW8.out])
  exact bodyPost_ret (v := .agg #[.int .i64 n0, .int .i64 n1, .int .i64 n2, .int .i64 (zagS n3), .int .i64 (zagS n4), .int .i64 n5]) (by simp [results, Try.results39, go_sem, de0, de1, de2, de3, de4, de5]) rfl HR.out
end Go.Proofs.Ytkkaedcgpbjbmaa
