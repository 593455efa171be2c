/- The contract of the document's own Parse. -/
import Derived.Test.YtbegjadohamkkaaGreatOMsgParse
import Derived.Test.YtbegjadohamkkaaGreatOEyeCerts
namespace Go.Proofs.YtbegjadohamkkaaGreat
open Go.RowKit

theorem eyed_msg {zs : List Int} {s0 s1 s2 s3 s4 s5 s6 s7 s8 s9 s10 : Option Int} {a0 : Int} {a1 : Int} {a2 : Int} {a3 : Int} {a4 : Int} {a5 : Int} {a6 : List Rq} {a7 : List Vt} {a8 : List Ct} {a9 : List Pt} (h0 : Eyed (tkNum zs) s0 s1 a0) (h1 : Eyed (tkNum zs) s1 s2 a1) (h2 : Eyed (tkNum zs) s2 s3 a2) (h3 : Eyed (tkNum zs) s3 s4 a3) (h4 : Eyed (tkNum zs) s4 s5 a4) (h5 : Eyed (tkSgn zs) s5 s6 a5) (h6 : Eyed (tkBatch zs) s6 s7 a6) (h7 : Eyed (tkVotes zs) s7 s8 a7) (h8 : Eyed (tkCerts zs) s8 s9 a8) (h9 : Eyed (tkParts zs) s9 s10 a9) : Eyed (tkMsg zs) s0 s10 ⟨a0, a1, a2, a3, a4, a5, a6, a7, a8, a9⟩ :=
  (Eyed.bind (g := fun x0 j => (tkNum zs j).bind fun y1 => (tkNum zs y1.2).bind fun y2 => (tkNum zs y2.2).bind fun y3 => (tkNum zs y3.2).bind fun y4 => (tkSgn zs y4.2).bind fun y5 => (tkBatch zs y5.2).bind fun y6 => (tkVotes zs y6.2).bind fun y7 => (tkCerts zs y7.2).bind fun y8 => (tkParts zs y8.2).bind fun y9 => some ((⟨x0, y1.1, y2.1, y3.1, y4.1, y5.1, y6.1, y7.1, y8.1, y9.1⟩ : Mg), y9.2)) h0 (Eyed.bind (g := fun x1 j => (tkNum zs j).bind fun y2 => (tkNum zs y2.2).bind fun y3 => (tkNum zs y3.2).bind fun y4 => (tkSgn zs y4.2).bind fun y5 => (tkBatch zs y5.2).bind fun y6 => (tkVotes zs y6.2).bind fun y7 => (tkCerts zs y7.2).bind fun y8 => (tkParts zs y8.2).bind fun y9 => some ((⟨a0, x1, y2.1, y3.1, y4.1, y5.1, y6.1, y7.1, y8.1, y9.1⟩ : Mg), y9.2)) h1 (Eyed.bind (g := fun x2 j => (tkNum zs j).bind fun y3 => (tkNum zs y3.2).bind fun y4 => (tkSgn zs y4.2).bind fun y5 => (tkBatch zs y5.2).bind fun y6 => (tkVotes zs y6.2).bind fun y7 => (tkCerts zs y7.2).bind fun y8 => (tkParts zs y8.2).bind fun y9 => some ((⟨a0, a1, x2, y3.1, y4.1, y5.1, y6.1, y7.1, y8.1, y9.1⟩ : Mg), y9.2)) h2 (Eyed.bind (g := fun x3 j => (tkNum zs j).bind fun y4 => (tkSgn zs y4.2).bind fun y5 => (tkBatch zs y5.2).bind fun y6 => (tkVotes zs y6.2).bind fun y7 => (tkCerts zs y7.2).bind fun y8 => (tkParts zs y8.2).bind fun y9 => some ((⟨a0, a1, a2, x3, y4.1, y5.1, y6.1, y7.1, y8.1, y9.1⟩ : Mg), y9.2)) h3 (Eyed.bind (g := fun x4 j => (tkSgn zs j).bind fun y5 => (tkBatch zs y5.2).bind fun y6 => (tkVotes zs y6.2).bind fun y7 => (tkCerts zs y7.2).bind fun y8 => (tkParts zs y8.2).bind fun y9 => some ((⟨a0, a1, a2, a3, x4, y5.1, y6.1, y7.1, y8.1, y9.1⟩ : Mg), y9.2)) h4 (Eyed.bind (g := fun x5 j => (tkBatch zs j).bind fun y6 => (tkVotes zs y6.2).bind fun y7 => (tkCerts zs y7.2).bind fun y8 => (tkParts zs y8.2).bind fun y9 => some ((⟨a0, a1, a2, a3, a4, x5, y6.1, y7.1, y8.1, y9.1⟩ : Mg), y9.2)) h5 (Eyed.bind (g := fun x6 j => (tkVotes zs j).bind fun y7 => (tkCerts zs y7.2).bind fun y8 => (tkParts zs y8.2).bind fun y9 => some ((⟨a0, a1, a2, a3, a4, a5, x6, y7.1, y8.1, y9.1⟩ : Mg), y9.2)) h6 (Eyed.bind (g := fun x7 j => (tkCerts zs j).bind fun y8 => (tkParts zs y8.2).bind fun y9 => some ((⟨a0, a1, a2, a3, a4, a5, a6, x7, y8.1, y9.1⟩ : Mg), y9.2)) h7 (Eyed.bind (g := fun x8 j => (tkParts zs j).bind fun y9 => some ((⟨a0, a1, a2, a3, a4, a5, a6, a7, x8, y9.1⟩ : Mg), y9.2)) h8 (Eyed.bind (g := fun x9 j => some ((⟨a0, a1, a2, a3, a4, a5, a6, a7, a8, x9⟩ : Mg), j)) h9 (Eyed.pure (⟨a0, a1, a2, a3, a4, a5, a6, a7, a8, a9⟩ : Mg) s10)))))))))))
theorem Ms.Own.eye {w w' : World} {b g : Nat} {X : Value} {st : Option Int} {x : Ms} (h : x.Own w b) (ho : Only g w w') (he : EyeHas w g X st) : x.Own w' b :=
  have hk := eye_keeps ho he
  ⟨hk _ _ _ _ _ _ (by decide) h.bt, hk _ _ _ _ _ _ (by decide) h.vs, h.cs.keeps hk (by decide) (by decide) (by decide), h.ps.keeps hk (by decide) (by decide) (by decide) (by decide)⟩
/-- The run of Parse: the result's block, the Eye's, the message's. -/
structure RPar (w wr : World) (X : Value) (x : Ms) (st : Option Int) : Prop where
  low : Below w.heap.size w wr
  res : Blk wr w.heap.size 38 #[.int .i64 0, .int .i64 0, .int .i64 0, .int .i64 0, .int .i64 0, .int .i64 0, .slice none 0 0, .slice none 0 0, .slice none 0 0, .slice none 0 0]
  eye : EyeHas wr (w.heap.size + 1) X st
  blk : Blk wr (w.heap.size + 1 + 1) 38 #[.int .i64 x.m.kd, .int .i64 x.m.fr, .int .i64 x.m.vw, .int .i64 x.m.ins, .int .i64 x.m.sq, .int .i64 x.m.rs, .slice x.A1 x.m.bt.length x.c1, .slice x.A2 x.m.vs.length x.c2, .slice x.A3 x.m.cs.length x.c3, .slice x.A4 x.m.ps.length x.c4]
  own : x.Own wr (w.heap.size + 3)
  size : w.heap.size + 3 ≤ wr.heap.size
theorem RPar.seen {w wr w2 : World} {X : Value} {x : Ms} {st st' : Option Int} (h : RPar w wr X x st) (he : EyeHas w2 (w.heap.size + 1) X st') (ho : Only (w.heap.size + 1) wr w2) : RPar w w2 X x st' :=
  ⟨h.low.trans (ho.below (Nat.le_succ _) h.low.size), ho.blk h.res (by omega), he, ho.blk h.blk (by omega), h.own.eye ho h.eye, Nat.le_trans h.size ho.size⟩
theorem EyeHas.cell {w : World} {g b : Nat} {X : Value} {st : Option Int} (h : EyeHas w g X st) (hb : g ≠ b) (i : Nat) (v : Value) : EyeHas (w.setCell ⟨b, i, none⟩ v) g X st := by
  obtain ⟨p, bad, h1, h2⟩ := h
  exact ⟨p, bad, h1.far hb v, h2⟩
theorem RPar.set0 {w wr : World} {X : Value} {x : Ms} {st : Option Int} (h : RPar w wr X x st) (n : Int) : RPar w (wr.setCell ⟨w.heap.size + 1 + 1, 0, none⟩ (.int .i64 n)) X { x with m := { x.m with kd := n } } st :=
  have ow := h.own.keeps (keeps_cell h.blk 0 (.int .i64 n))
  ⟨h.low.setCell (p := ⟨w.heap.size + 1 + 1, 0, none⟩) (by show w.heap.size ≤ w.heap.size + 1 + 1; omega) _, h.res.far (by show w.heap.size ≠ w.heap.size + 1 + 1; omega) _, h.eye.cell (by omega) _ _, h.blk.set_ 0 _, ⟨ow.bt, ow.vs, ow.cs, ow.ps⟩, by simpa using h.size⟩
theorem RPar.set1 {w wr : World} {X : Value} {x : Ms} {st : Option Int} (h : RPar w wr X x st) (n : Int) : RPar w (wr.setCell ⟨w.heap.size + 1 + 1, 1, none⟩ (.int .i64 n)) X { x with m := { x.m with fr := n } } st :=
  have ow := h.own.keeps (keeps_cell h.blk 1 (.int .i64 n))
  ⟨h.low.setCell (p := ⟨w.heap.size + 1 + 1, 1, none⟩) (by show w.heap.size ≤ w.heap.size + 1 + 1; omega) _, h.res.far (by show w.heap.size ≠ w.heap.size + 1 + 1; omega) _, h.eye.cell (by omega) _ _, h.blk.set_ 1 _, ⟨ow.bt, ow.vs, ow.cs, ow.ps⟩, by simpa using h.size⟩
theorem RPar.set2 {w wr : World} {X : Value} {x : Ms} {st : Option Int} (h : RPar w wr X x st) (n : Int) : RPar w (wr.setCell ⟨w.heap.size + 1 + 1, 2, none⟩ (.int .i64 n)) X { x with m := { x.m with vw := n } } st :=
  have ow := h.own.keeps (keeps_cell h.blk 2 (.int .i64 n))
  ⟨h.low.setCell (p := ⟨w.heap.size + 1 + 1, 2, none⟩) (by show w.heap.size ≤ w.heap.size + 1 + 1; omega) _, h.res.far (by show w.heap.size ≠ w.heap.size + 1 + 1; omega) _, h.eye.cell (by omega) _ _, h.blk.set_ 2 _, ⟨ow.bt, ow.vs, ow.cs, ow.ps⟩, by simpa using h.size⟩
theorem RPar.set3 {w wr : World} {X : Value} {x : Ms} {st : Option Int} (h : RPar w wr X x st) (n : Int) : RPar w (wr.setCell ⟨w.heap.size + 1 + 1, 3, none⟩ (.int .i64 n)) X { x with m := { x.m with ins := n } } st :=
  have ow := h.own.keeps (keeps_cell h.blk 3 (.int .i64 n))
  ⟨h.low.setCell (p := ⟨w.heap.size + 1 + 1, 3, none⟩) (by show w.heap.size ≤ w.heap.size + 1 + 1; omega) _, h.res.far (by show w.heap.size ≠ w.heap.size + 1 + 1; omega) _, h.eye.cell (by omega) _ _, h.blk.set_ 3 _, ⟨ow.bt, ow.vs, ow.cs, ow.ps⟩, by simpa using h.size⟩
theorem RPar.set4 {w wr : World} {X : Value} {x : Ms} {st : Option Int} (h : RPar w wr X x st) (n : Int) : RPar w (wr.setCell ⟨w.heap.size + 1 + 1, 4, none⟩ (.int .i64 n)) X { x with m := { x.m with sq := n } } st :=
  have ow := h.own.keeps (keeps_cell h.blk 4 (.int .i64 n))
  ⟨h.low.setCell (p := ⟨w.heap.size + 1 + 1, 4, none⟩) (by show w.heap.size ≤ w.heap.size + 1 + 1; omega) _, h.res.far (by show w.heap.size ≠ w.heap.size + 1 + 1; omega) _, h.eye.cell (by omega) _ _, h.blk.set_ 4 _, ⟨ow.bt, ow.vs, ow.cs, ow.ps⟩, by simpa using h.size⟩
theorem RPar.set5 {w wr : World} {X : Value} {x : Ms} {st : Option Int} (h : RPar w wr X x st) (n : Int) : RPar w (wr.setCell ⟨w.heap.size + 1 + 1, 5, none⟩ (.int .i64 n)) X { x with m := { x.m with rs := n } } st :=
  have ow := h.own.keeps (keeps_cell h.blk 5 (.int .i64 n))
  ⟨h.low.setCell (p := ⟨w.heap.size + 1 + 1, 5, none⟩) (by show w.heap.size ≤ w.heap.size + 1 + 1; omega) _, h.res.far (by show w.heap.size ≠ w.heap.size + 1 + 1; omega) _, h.eye.cell (by omega) _ _, h.blk.set_ 5 _, ⟨ow.bt, ow.vs, ow.cs, ow.ps⟩, by simpa using h.size⟩
theorem RPar.set6 {w wr : World} {X : Value} {x : Ms} {st : Option Int} (h : RPar w wr X x st) {l : List Rq} {A : Option Addr} {c b : Nat} (ho : OwnReqs wr b (.slice A l.length c) l) (hb : w.heap.size + 3 ≤ b) : RPar w (wr.setCell ⟨w.heap.size + 1 + 1, 6, none⟩ (.slice A l.length c)) X { x with m := { x.m with bt := l }, A1 := A, c1 := c } st :=
  have hk := keeps_cell h.blk 6 (.slice A l.length c)
  have ow := h.own.keeps hk
  ⟨h.low.setCell (p := ⟨w.heap.size + 1 + 1, 6, none⟩) (by show w.heap.size ≤ w.heap.size + 1 + 1; omega) _, h.res.far (by show w.heap.size ≠ w.heap.size + 1 + 1; omega) _, h.eye.cell (by omega) _ _, h.blk.set_ 6 _, ⟨hk _ _ _ _ _ _ (by decide) (own_base ho hb), ow.vs, ow.cs, ow.ps⟩, by simpa using h.size⟩
theorem RPar.set7 {w wr : World} {X : Value} {x : Ms} {st : Option Int} (h : RPar w wr X x st) {l : List Vt} {A : Option Addr} {c b : Nat} (ho : OwnVotes wr b (.slice A l.length c) l) (hb : w.heap.size + 3 ≤ b) : RPar w (wr.setCell ⟨w.heap.size + 1 + 1, 7, none⟩ (.slice A l.length c)) X { x with m := { x.m with vs := l }, A2 := A, c2 := c } st :=
  have hk := keeps_cell h.blk 7 (.slice A l.length c)
  have ow := h.own.keeps hk
  ⟨h.low.setCell (p := ⟨w.heap.size + 1 + 1, 7, none⟩) (by show w.heap.size ≤ w.heap.size + 1 + 1; omega) _, h.res.far (by show w.heap.size ≠ w.heap.size + 1 + 1; omega) _, h.eye.cell (by omega) _ _, h.blk.set_ 7 _, ⟨ow.bt, hk _ _ _ _ _ _ (by decide) (own_base ho hb), ow.cs, ow.ps⟩, by simpa using h.size⟩
theorem RPar.set8 {w wr : World} {X : Value} {x : Ms} {st : Option Int} (h : RPar w wr X x st) {l : List Ct} {A : Option Addr} {c b : Nat} (ho : OwnCerts wr b (.slice A l.length c) l) (hb : w.heap.size + 3 ≤ b) : RPar w (wr.setCell ⟨w.heap.size + 1 + 1, 8, none⟩ (.slice A l.length c)) X { x with m := { x.m with cs := l }, A3 := A, c3 := c } st :=
  have hk := keeps_cell h.blk 8 (.slice A l.length c)
  have ow := h.own.keeps hk
  ⟨h.low.setCell (p := ⟨w.heap.size + 1 + 1, 8, none⟩) (by show w.heap.size ≤ w.heap.size + 1 + 1; omega) _, h.res.far (by show w.heap.size ≠ w.heap.size + 1 + 1; omega) _, h.eye.cell (by omega) _ _, h.blk.set_ 8 _, ⟨ow.bt, ow.vs, (ho.base hb).keeps hk (by decide) (by decide) (by decide), ow.ps⟩, by simpa using h.size⟩
theorem RPar.set9 {w wr : World} {X : Value} {x : Ms} {st : Option Int} (h : RPar w wr X x st) {l : List Pt} {A : Option Addr} {c b : Nat} (ho : OwnParts wr b (.slice A l.length c) l) (hb : w.heap.size + 3 ≤ b) : RPar w (wr.setCell ⟨w.heap.size + 1 + 1, 9, none⟩ (.slice A l.length c)) X { x with m := { x.m with ps := l }, A4 := A, c4 := c } st :=
  have hk := keeps_cell h.blk 9 (.slice A l.length c)
  have ow := h.own.keeps hk
  ⟨h.low.setCell (p := ⟨w.heap.size + 1 + 1, 9, none⟩) (by show w.heap.size ≤ w.heap.size + 1 + 1; omega) _, h.res.far (by show w.heap.size ≠ w.heap.size + 1 + 1; omega) _, h.eye.cell (by omega) _ _, h.blk.set_ 9 _, ⟨ow.bt, ow.vs, ow.cs, (ho.base hb).keeps hk (by decide) (by decide) (by decide) (by decide)⟩, by simpa using h.size⟩
theorem RPar.new (A : Option Addr) (n cap : Nat) (w : World) : RPar w (((w.alloc (.cells #[.int .i64 0, .int .i64 0, .int .i64 0, .int .i64 0, .int .i64 0, .int .i64 0, .slice none 0 0, .slice none 0 0, .slice none 0 0, .slice none 0 0] 38)).alloc (.cells #[.slice A n cap, .int .i64 0, .bool false] 186)).alloc (.cells #[.int .i64 0, .int .i64 0, .int .i64 0, .int .i64 0, .int .i64 0, .int .i64 0, .slice none 0 0, .slice none 0 0, .slice none 0 0, .slice none 0 0] 38)) (.slice A n cap) ⟨⟨0, 0, 0, 0, 0, 0, [], [], [], []⟩, none, 0, none, 0, none, 0, none, 0⟩ (some 0) := by
  refine ⟨(((Below.refl _ w).alloc (Nat.le_refl _) _).alloc (by simp) _).alloc (by simp; omega) _, ((Blk.new _ _ _).alloc _).alloc _, ⟨0, false, (Blk.new1 _ _ _ _).alloc _, by decide, Or.inl ⟨rfl, rfl⟩⟩, ?_, Ms.Own.nil _ _ _ _ _ _ _ _, by simp⟩
  have := Blk.new1 (w.alloc (.cells #[.int .i64 0, .int .i64 0, .int .i64 0, .int .i64 0, .int .i64 0, .int .i64 0, .slice none 0 0, .slice none 0 0, .slice none 0 0, .slice none 0 0] 38)) (.cells #[.slice A n cap, .int .i64 0, .bool false] 186) 38 #[.int .i64 0, .int .i64 0, .int .i64 0, .int .i64 0, .int .i64 0, .int .i64 0, .slice none 0 0, .slice none 0 0, .slice none 0 0, .slice none 0 0]
  rw [show (w.alloc (.cells #[.int .i64 0, .int .i64 0, .int .i64 0, .int .i64 0, .int .i64 0, .int .i64 0, .slice none 0 0, .slice none 0 0, .slice none 0 0, .slice none 0 0] 38)).heap.size = w.heap.size + 1 by simp] at this
  exact this
theorem eyed_got {α : Type} {f : Tkr α} {a k : Int} {x : α} (h : Eyed f (some a) (some k) x) : f a = some (x, k) := by
  unfold Eyed at h
  simp only at h
  cases hf : f a with
  | none => rw [hf] at h; cases h
  | some r =>
    obtain ⟨y, j⟩ := r
    rw [hf] at h
    obtain ⟨h1, h2⟩ := h
    injection h1 with h1
    subst h1; subst h2
    rfl
theorem eyed_lost {α : Type} {f : Tkr α} {a : Int} {x : α} (h : Eyed f (some a) none x) : f a = none := by
  unfold Eyed at h
  simp only at h
  cases hf : f a with
  | none => rfl
  | some r =>
    obtain ⟨y, j⟩ := r
    rw [hf] at h
    obtain ⟨h1, _⟩ := h
    cases h1
set_option maxHeartbeats 8000000 in
set_option maxRecDepth 100000 in
theorem rparse_any (A : Option Addr) (cap : Nat) (zs : List Int) (n : Nat) (hn : zs.length = n) (hl : n ≤ 9223372036854775806) (hz : ∀ z ∈ zs, 0 ≤ z ∧ z ≤ 255) (w : World) (hh : Has w w.heap.size A (u8s zs)) :
    Calls Tryz.prog 113 #[.slice A n cap] w (MsgTaken (parseM zs) w) := by
  have HH := Lib.hid hh
  have HL := Lib.hid hn
  have hl' : zs.length ≤ 9223372036854775806 := by rw [hn]; exact hl
  have KN := Lib.hid (fun w' st he hh => eye_number A cap zs w.heap.size (w.heap.size + 1) st hl' hz w' he hh)
  have K6 := Lib.hid (fun w' st he hh => eye_batch A cap zs w.heap.size (w.heap.size + 1) st hl' hz w' (Nat.le_succ _) he hh)
  have K7 := Lib.hid (fun w' st he hh => eye_votes A cap zs w.heap.size (w.heap.size + 1) st hl' hz w' (Nat.le_succ _) he hh)
  have K8 := Lib.hid (fun w' st he hh => eye_certs A cap zs w.heap.size (w.heap.size + 1) st hl' hz w' (Nat.le_succ _) he hh)
  have K9 := Lib.hid (fun w' st he hh => eye_parts A cap zs w.heap.size (w.heap.size + 1) st hl' hz w' (Nat.le_succ _) he hh)
  rw [hn] at KN K6 K7 K8 K9
  have HR0 := Lib.hid (RPar.new A n cap w)
  clear hh hz hn hl'
  go_enter Tryz.func113, Tryz.ntmps113
  go_wp2_with fail
  obtain ⟨w0, hw0⟩ : ∃ w0, (((w.alloc (.cells #[.int .i64 0, .int .i64 0, .int .i64 0, .int .i64 0, .int .i64 0, .int .i64 0, .slice none 0 0, .slice none 0 0, .slice none 0 0, .slice none 0 0] 38)).alloc (.cells #[.slice A n cap, .int .i64 0, .bool false] 186)).alloc (.cells #[.int .i64 0, .int .i64 0, .int .i64 0, .int .i64 0, .int .i64 0, .int .i64 0, .slice none 0 0, .slice none 0 0, .slice none 0 0, .slice none 0 0] 38)) = w0 := ⟨_, rfl⟩
  rw [hw0] at HR0 ⊢
  clear hw0
  refine (KN.out w0 (some 0) HR0.out.eye (HH.out.below HR0.out.low (Nat.le_refl _))).mono ?_
  rintro e v0 ⟨n0, s0, rfl, hE0, he, ho, _, hlo, hhi⟩
  have hR := HR0.out.seen he ho
  clear he ho
  have HE0 := Lib.hid hE0
  have cc : World.cell? v0 ⟨w.heap.size + 1 + 1, 0, none⟩ = some (.int .i64 0) := hR.blk.cell 0
  have ff := hR.blk.frozen 0
  have hS : RPar w (v0.setCell ⟨w.heap.size + 1 + 1, 0, none⟩ (.int .i64 n0)) (.slice A n cap) ⟨⟨n0, 0, 0, 0, 0, 0, [], [], [], []⟩, none, 0, none, 0, none, 0, none, 0⟩ s0 := hR.set0 _
  obtain ⟨w1, hW⟩ : ∃ W, v0.setCell ⟨w.heap.size + 1 + 1, 0, none⟩ (.int .i64 n0) = W := ⟨_, rfl⟩
  rw [hW] at hS
  have HR1 := Lib.hid hS
  have HWq := Lib.hid hW
  clear hS hW hR hE0 HR0
  go_wp2_with fail
  rw [HWq.out]
  clear HWq cc ff
  go_wp2_with fail
  refine (KN.out w1 s0 HR1.out.eye (HH.out.below HR1.out.low (Nat.le_refl _))).mono ?_
  rintro e v1 ⟨n1, s1, rfl, hE1, he, ho, _, hlo, hhi⟩
  have hR := HR1.out.seen he ho
  clear he ho
  have HE1 := Lib.hid hE1
  have cc : World.cell? v1 ⟨w.heap.size + 1 + 1, 1, none⟩ = some (.int .i64 0) := hR.blk.cell 1
  have ff := hR.blk.frozen 1
  have hS : RPar w (v1.setCell ⟨w.heap.size + 1 + 1, 1, none⟩ (.int .i64 n1)) (.slice A n cap) ⟨⟨n0, n1, 0, 0, 0, 0, [], [], [], []⟩, none, 0, none, 0, none, 0, none, 0⟩ s1 := hR.set1 _
  obtain ⟨w2, hW⟩ : ∃ W, v1.setCell ⟨w.heap.size + 1 + 1, 1, none⟩ (.int .i64 n1) = W := ⟨_, rfl⟩
  rw [hW] at hS
  have HR2 := Lib.hid hS
  have HWq := Lib.hid hW
  clear hS hW hR hE1 HR1
  go_wp2_with fail
  rw [HWq.out]
  clear HWq cc ff
  go_wp2_with fail
  refine (KN.out w2 s1 HR2.out.eye (HH.out.below HR2.out.low (Nat.le_refl _))).mono ?_
  rintro e v2 ⟨n2, s2, rfl, hE2, he, ho, _, hlo, hhi⟩
  have hR := HR2.out.seen he ho
  clear he ho
  have HE2 := Lib.hid hE2
  have cc : World.cell? v2 ⟨w.heap.size + 1 + 1, 2, none⟩ = some (.int .i64 0) := hR.blk.cell 2
  have ff := hR.blk.frozen 2
  have hS : RPar w (v2.setCell ⟨w.heap.size + 1 + 1, 2, none⟩ (.int .i64 n2)) (.slice A n cap) ⟨⟨n0, n1, n2, 0, 0, 0, [], [], [], []⟩, none, 0, none, 0, none, 0, none, 0⟩ s2 := hR.set2 _
  obtain ⟨w3, hW⟩ : ∃ W, v2.setCell ⟨w.heap.size + 1 + 1, 2, none⟩ (.int .i64 n2) = W := ⟨_, rfl⟩
  rw [hW] at hS
  have HR3 := Lib.hid hS
  have HWq := Lib.hid hW
  clear hS hW hR hE2 HR2
  go_wp2_with fail
  rw [HWq.out]
  clear HWq cc ff
  go_wp2_with fail
  refine (KN.out w3 s2 HR3.out.eye (HH.out.below HR3.out.low (Nat.le_refl _))).mono ?_
  rintro e v3 ⟨n3, s3, rfl, hE3, he, ho, _, hlo, hhi⟩
  have hR := HR3.out.seen he ho
  clear he ho
  have HE3 := Lib.hid hE3
  have cc : World.cell? v3 ⟨w.heap.size + 1 + 1, 3, none⟩ = some (.int .i64 0) := hR.blk.cell 3
  have ff := hR.blk.frozen 3
  have hS : RPar w (v3.setCell ⟨w.heap.size + 1 + 1, 3, none⟩ (.int .i64 n3)) (.slice A n cap) ⟨⟨n0, n1, n2, n3, 0, 0, [], [], [], []⟩, none, 0, none, 0, none, 0, none, 0⟩ s3 := hR.set3 _
  obtain ⟨w4, hW⟩ : ∃ W, v3.setCell ⟨w.heap.size + 1 + 1, 3, none⟩ (.int .i64 n3) = W := ⟨_, rfl⟩
  rw [hW] at hS
  have HR4 := Lib.hid hS
  have HWq := Lib.hid hW
  clear hS hW hR hE3 HR3
  go_wp2_with fail
  rw [HWq.out]
  clear HWq cc ff
  go_wp2_with fail
  refine (KN.out w4 s3 HR4.out.eye (HH.out.below HR4.out.low (Nat.le_refl _))).mono ?_
  rintro e v4 ⟨n4, s4, rfl, hE4, he, ho, _, hlo, hhi⟩
  have hR := HR4.out.seen he ho
  clear he ho
  have HE4 := Lib.hid hE4
  have cc : World.cell? v4 ⟨w.heap.size + 1 + 1, 4, none⟩ = some (.int .i64 0) := hR.blk.cell 4
  have ff := hR.blk.frozen 4
  have hS : RPar w (v4.setCell ⟨w.heap.size + 1 + 1, 4, none⟩ (.int .i64 n4)) (.slice A n cap) ⟨⟨n0, n1, n2, n3, n4, 0, [], [], [], []⟩, none, 0, none, 0, none, 0, none, 0⟩ s4 := hR.set4 _
  obtain ⟨w5, hW⟩ : ∃ W, v4.setCell ⟨w.heap.size + 1 + 1, 4, none⟩ (.int .i64 n4) = W := ⟨_, rfl⟩
  rw [hW] at hS
  have HR5 := Lib.hid hS
  have HWq := Lib.hid hW
  clear hS hW hR hE4 HR4
  go_wp2_with fail
  rw [HWq.out]
  clear HWq cc ff
  go_wp2_with fail
  refine (KN.out w5 s4 HR5.out.eye (HH.out.below HR5.out.low (Nat.le_refl _))).mono ?_
  rintro e v5 ⟨n5, s5, rfl, hE5, he, ho, _, hlo, hhi⟩
  have hR := HR5.out.seen he ho
  clear he ho
  have HE5 := Lib.hid hE5
  clear hE5
  have HR5b := Lib.hid hR
  clear hR
  go_wp2_with fail
  refine (refzag_any n5 _).mono ?_
  rintro e v' ⟨rfl, rfl⟩
  have hR := HR5b.out
  have hE5 := HE5.out
  have cc : World.cell? v5 ⟨w.heap.size + 1 + 1, 5, none⟩ = some (.int .i64 0) := hR.blk.cell 5
  have ff := hR.blk.frozen 5
  have hS : RPar w (v5.setCell ⟨w.heap.size + 1 + 1, 5, none⟩ (.int .i64 (zagS n5))) (.slice A n cap) ⟨⟨n0, n1, n2, n3, n4, zagS n5, [], [], [], []⟩, none, 0, none, 0, none, 0, none, 0⟩ s5 := hR.set5 _
  obtain ⟨w6, hW⟩ : ∃ W, v5.setCell ⟨w.heap.size + 1 + 1, 5, none⟩ (.int .i64 (zagS n5)) = W := ⟨_, rfl⟩
  rw [hW] at hS
  have HR6 := Lib.hid hS
  have HWq := Lib.hid hW
  clear hS hW hR hE5 HR5 HR5b
  go_wp2_with fail
  rw [HWq.out]
  clear HWq cc ff
  go_wp2_with fail
  refine (K6.out w6 s5 HR6.out.eye (HH.out.below HR6.out.low (Nat.le_refl _))).mono ?_
  rintro e v6 ⟨l6, vv, s6, rfl, _, hE6, hown, he, ho⟩
  obtain ⟨A6, c6, rfl, _, _⟩ := own_slice hown
  have hR := HR6.out.seen he ho
  have hsz := HR6.out.size
  clear he ho
  have HE6 := Lib.hid hE6
  have cc : World.cell? v6 ⟨w.heap.size + 1 + 1, 6, none⟩ = some (.slice none 0 0) := hR.blk.cell 6
  have ff := hR.blk.frozen 6
  have hS : RPar w (v6.setCell ⟨w.heap.size + 1 + 1, 6, none⟩ (.slice A6 l6.length c6)) (.slice A n cap) ⟨⟨n0, n1, n2, n3, n4, zagS n5, l6, [], [], []⟩, A6, c6, none, 0, none, 0, none, 0⟩ s6 := hR.set6 hown hsz
  obtain ⟨w7, hW⟩ : ∃ W, v6.setCell ⟨w.heap.size + 1 + 1, 6, none⟩ (.slice A6 l6.length c6) = W := ⟨_, rfl⟩
  rw [hW] at hS
  have HR7 := Lib.hid hS
  have HWq := Lib.hid hW
  clear hS hW hR hE6 HR6 hown hsz
  go_wp2_with fail
  rw [HWq.out]
  clear HWq cc ff
  go_wp2_with fail
  refine (K7.out w7 s6 HR7.out.eye (HH.out.below HR7.out.low (Nat.le_refl _))).mono ?_
  rintro e v7 ⟨l7, vv, s7, rfl, _, hE7, hown, he, ho⟩
  obtain ⟨A7, c7, rfl, _, _⟩ := own_slice hown
  have hR := HR7.out.seen he ho
  have hsz := HR7.out.size
  clear he ho
  have HE7 := Lib.hid hE7
  have cc : World.cell? v7 ⟨w.heap.size + 1 + 1, 7, none⟩ = some (.slice none 0 0) := hR.blk.cell 7
  have ff := hR.blk.frozen 7
  have hS : RPar w (v7.setCell ⟨w.heap.size + 1 + 1, 7, none⟩ (.slice A7 l7.length c7)) (.slice A n cap) ⟨⟨n0, n1, n2, n3, n4, zagS n5, l6, l7, [], []⟩, A6, c6, A7, c7, none, 0, none, 0⟩ s7 := hR.set7 hown hsz
  obtain ⟨w8, hW⟩ : ∃ W, v7.setCell ⟨w.heap.size + 1 + 1, 7, none⟩ (.slice A7 l7.length c7) = W := ⟨_, rfl⟩
  rw [hW] at hS
  have HR8 := Lib.hid hS
  have HWq := Lib.hid hW
  clear hS hW hR hE7 HR7 hown hsz
  go_wp2_with fail
  rw [HWq.out]
  clear HWq cc ff
  go_wp2_with fail
  refine (K8.out w8 s7 HR8.out.eye (HH.out.below HR8.out.low (Nat.le_refl _))).mono ?_
  rintro e v8 ⟨l8, vv, s8, rfl, _, hE8, hown, he, ho⟩
  obtain ⟨A8, c8, rfl, _, _⟩ := hown.slice
  have hR := HR8.out.seen he ho
  have hsz := HR8.out.size
  clear he ho
  have HE8 := Lib.hid hE8
  have cc : World.cell? v8 ⟨w.heap.size + 1 + 1, 8, none⟩ = some (.slice none 0 0) := hR.blk.cell 8
  have ff := hR.blk.frozen 8
  have hS : RPar w (v8.setCell ⟨w.heap.size + 1 + 1, 8, none⟩ (.slice A8 l8.length c8)) (.slice A n cap) ⟨⟨n0, n1, n2, n3, n4, zagS n5, l6, l7, l8, []⟩, A6, c6, A7, c7, A8, c8, none, 0⟩ s8 := hR.set8 hown hsz
  obtain ⟨w9, hW⟩ : ∃ W, v8.setCell ⟨w.heap.size + 1 + 1, 8, none⟩ (.slice A8 l8.length c8) = W := ⟨_, rfl⟩
  rw [hW] at hS
  have HR9 := Lib.hid hS
  have HWq := Lib.hid hW
  clear hS hW hR hE8 HR8 hown hsz
  go_wp2_with fail
  rw [HWq.out]
  clear HWq cc ff
  go_wp2_with fail
  refine (K9.out w9 s8 HR9.out.eye (HH.out.below HR9.out.low (Nat.le_refl _))).mono ?_
  rintro e v9 ⟨l9, vv, s9, rfl, _, hE9, hown, he, ho⟩
  obtain ⟨A9, c9, rfl, _, _⟩ := hown.slice
  have hR := HR9.out.seen he ho
  have hsz := HR9.out.size
  clear he ho
  have HE9 := Lib.hid hE9
  have cc : World.cell? v9 ⟨w.heap.size + 1 + 1, 9, none⟩ = some (.slice none 0 0) := hR.blk.cell 9
  have ff := hR.blk.frozen 9
  have hS : RPar w (v9.setCell ⟨w.heap.size + 1 + 1, 9, none⟩ (.slice A9 l9.length c9)) (.slice A n cap) ⟨⟨n0, n1, n2, n3, n4, zagS n5, l6, l7, l8, l9⟩, A6, c6, A7, c7, A8, c8, A9, c9⟩ s9 := hR.set9 hown hsz
  have HR10 := Lib.hid hS
  have hR9 := hR
  clear hS hR hE9 HR9 hown hsz
  have hM := eyed_msg HE0.out HE1.out HE2.out HE3.out HE4.out (eyed_sgn HE5.out) HE6.out HE7.out HE8.out HE9.out
  have HM := Lib.hid hM
  clear hM HE0 HE1 HE2 HE3 HE4 HE5 HE6 HE7 HE8 HE9
  obtain ⟨p, bad, hb, hp, hst⟩ := hR9.eye
  have hblk := hR9.blk
  clear hR9
  have e1 : v9.cell? ⟨w.heap.size + 1, 1, none⟩ = some (.int .i64 p) := hb.cell 1
  have e2 : v9.cell? ⟨w.heap.size + 1, 2, none⟩ = some (.bool bad) := hb.cell 2
  have HTh := Lib.hid (there_ten HR10.out.res)
  have hlow := HR10.out.low
  have hres := HR10.out.res
  rcases hst with ⟨hs, rfl⟩ | ⟨hs, rfl⟩
  · subst hs
    have htk : tkMsg zs 0 = some (⟨n0, n1, n2, n3, n4, zagS n5, l6, l7, l8, l9⟩, p) := eyed_got HM.out
    by_cases h1 : p = n
    · by_cases h2 : n ≤ 65536
      · have HP := Lib.hid (show parseM zs = some ⟨n0, n1, n2, n3, n4, zagS n5, l6, l7, l8, l9⟩ by unfold parseM; rw [if_pos (by rw [HL.out]; exact h2), htk]; simp [HL.out, h1])
        have t1 : (p != (n : Int)) = false := by simp [h1]
        have t2 : decide ((65536 : Int) < (n : Int)) = false := decide_eq_false (by omega)
        clear h1 htk hb HM
        obtain ⟨wz, hwz⟩ : ∃ wz, (v9.setCell ⟨w.heap.size + 1 + 1, 9, none⟩ (.slice A9 l9.length c9)).setCells w.heap.size 0 [.int .i64 n0, .int .i64 n1, .int .i64 n2, .int .i64 n3, .int .i64 n4, .int .i64 (zagS n5), .slice A6 l6.length c6, .slice A7 l7.length c7, .slice A8 l8.length c8, .slice A9 l9.length c9] = wz := ⟨_, rfl⟩
        have hbz : Below w.heap.size w wz := by rw [← hwz]; exact below_ten hlow _ _ _ _ _ _ _ _ _ _
        have hkz : Blk wz w.heap.size 38 #[.int .i64 n0, .int .i64 n1, .int .i64 n2, .int .i64 n3, .int .i64 n4, .int .i64 (zagS n5), .slice A6 l6.length c6, .slice A7 l7.length c7, .slice A8 l8.length c8, .slice A9 l9.length c9] := by rw [← hwz]; exact blk_ten hres _ _ _ _ _ _ _ _ _ _
        have hoz : Ms.Own wz (w.heap.size + 3) ⟨⟨n0, n1, n2, n3, n4, zagS n5, l6, l7, l8, l9⟩, A6, c6, A7, c7, A8, c8, A9, c9⟩ := by rw [← hwz]; exact HR10.out.own.keeps (keeps_ten hres _ _ _ _ _ _ _ _ _ _)
        have HOz := Lib.hid hoz
        clear hoz
        have HBz := Lib.hid hbz
        have HWz := Lib.hid hwz
        have y0 : wz.cell? ⟨w.heap.size, 0, none⟩ = some (.int .i64 n0) := hkz.cell 0
        have y1 : wz.cell? ⟨w.heap.size, 1, none⟩ = some (.int .i64 n1) := hkz.cell 1
        have y2 : wz.cell? ⟨w.heap.size, 2, none⟩ = some (.int .i64 n2) := hkz.cell 2
        have y3 : wz.cell? ⟨w.heap.size, 3, none⟩ = some (.int .i64 n3) := hkz.cell 3
        have y4 : wz.cell? ⟨w.heap.size, 4, none⟩ = some (.int .i64 n4) := hkz.cell 4
        have y5 : wz.cell? ⟨w.heap.size, 5, none⟩ = some (.int .i64 (zagS n5)) := hkz.cell 5
        have y6 : wz.cell? ⟨w.heap.size, 6, none⟩ = some (.slice A6 l6.length c6) := hkz.cell 6
        have y7 : wz.cell? ⟨w.heap.size, 7, none⟩ = some (.slice A7 l7.length c7) := hkz.cell 7
        have y8 : wz.cell? ⟨w.heap.size, 8, none⟩ = some (.slice A8 l8.length c8) := hkz.cell 8
        have y9 : wz.cell? ⟨w.heap.size, 9, none⟩ = some (.slice A9 l9.length c9) := hkz.cell 9
        have z0 : v9.cell? ⟨w.heap.size + 1 + 1, 0, none⟩ = some (.int .i64 n0) := hblk.cell 0
        have z1 : v9.cell? ⟨w.heap.size + 1 + 1, 1, none⟩ = some (.int .i64 n1) := hblk.cell 1
        have z2 : v9.cell? ⟨w.heap.size + 1 + 1, 2, none⟩ = some (.int .i64 n2) := hblk.cell 2
        have z3 : v9.cell? ⟨w.heap.size + 1 + 1, 3, none⟩ = some (.int .i64 n3) := hblk.cell 3
        have z4 : v9.cell? ⟨w.heap.size + 1 + 1, 4, none⟩ = some (.int .i64 n4) := hblk.cell 4
        have z5 : v9.cell? ⟨w.heap.size + 1 + 1, 5, none⟩ = some (.int .i64 (zagS n5)) := hblk.cell 5
        have z6 : v9.cell? ⟨w.heap.size + 1 + 1, 6, none⟩ = some (.slice A6 l6.length c6) := hblk.cell 6
        have z7 : v9.cell? ⟨w.heap.size + 1 + 1, 7, none⟩ = some (.slice A7 l7.length c7) := hblk.cell 7
        have z8 : v9.cell? ⟨w.heap.size + 1 + 1, 8, none⟩ = some (.slice A8 l8.length c8) := hblk.cell 8
        clear hbz hwz hkz hlow hres hblk
        go_wp2_with (refine wpList_store_mid rfl 38 (.tmp 2) (.tmp 60) rfl w.heap.size 0 #[.int .i64 n0, .int .i64 n1, .int .i64 n2, .int .i64 n3, .int .i64 n4, .int .i64 (zagS n5), .slice A6 l6.length c6, .slice A7 l7.length c7, .slice A8 l8.length c8, .slice A9 l9.length c9] rfl rfl HTh.out msg_size (one_ten _ _ _ _ _ _ _ _ _ _ _ _ _ _ _ _ _ _) ?_; rw [HWz.out])
        refine bodyPost_ret (v := .tuple #[.agg #[.int .i64 n0, .int .i64 n1, .int .i64 n2, .int .i64 n3, .int .i64 n4, .int .i64 (zagS n5), .slice A6 l6.length c6, .slice A7 l7.length c7, .slice A8 l8.length c8, .slice A9 l9.length c9], .bool true]) ?_ ?_ ?_
        case refine_2 => rfl
        case refine_3 => exact ⟨HBz.out, Or.inl ⟨_, HP.out, rfl, HOz.out.base (by omega)⟩⟩
        simp [results, Tryz.results113, go_sem, y0, y1, y2, y3, y4, y5, y6, y7, y8, y9]
      · have HP := Lib.hid (show parseM zs = none from if_neg (by rw [HL.out]; exact h2))
        have t1 : (p != (n : Int)) = false := by simp [h1]
        have t2 : decide ((65536 : Int) < (n : Int)) = true := decide_eq_true (by omega)
        clear h1 htk hb HM
        obtain ⟨wz, hwz⟩ : ∃ wz, (v9.setCell ⟨w.heap.size + 1 + 1, 9, none⟩ (.slice A9 l9.length c9)).setCells w.heap.size 0 [.int .i64 0, .int .i64 0, .int .i64 0, .int .i64 0, .int .i64 0, .int .i64 0, .slice none 0 0, .slice none 0 0, .slice none 0 0, .slice none 0 0] = wz := ⟨_, rfl⟩
        have hbz : Below w.heap.size w wz := by rw [← hwz]; exact below_ten hlow _ _ _ _ _ _ _ _ _ _
        have hkz : Blk wz w.heap.size 38 #[.int .i64 0, .int .i64 0, .int .i64 0, .int .i64 0, .int .i64 0, .int .i64 0, .slice none 0 0, .slice none 0 0, .slice none 0 0, .slice none 0 0] := by rw [← hwz]; exact blk_ten hres _ _ _ _ _ _ _ _ _ _
        have HBz := Lib.hid hbz
        have HWz := Lib.hid hwz
        have y0 : wz.cell? ⟨w.heap.size, 0, none⟩ = some (.int .i64 0) := hkz.cell 0
        have y1 : wz.cell? ⟨w.heap.size, 1, none⟩ = some (.int .i64 0) := hkz.cell 1
        have y2 : wz.cell? ⟨w.heap.size, 2, none⟩ = some (.int .i64 0) := hkz.cell 2
        have y3 : wz.cell? ⟨w.heap.size, 3, none⟩ = some (.int .i64 0) := hkz.cell 3
        have y4 : wz.cell? ⟨w.heap.size, 4, none⟩ = some (.int .i64 0) := hkz.cell 4
        have y5 : wz.cell? ⟨w.heap.size, 5, none⟩ = some (.int .i64 0) := hkz.cell 5
        have y6 : wz.cell? ⟨w.heap.size, 6, none⟩ = some (.slice none 0 0) := hkz.cell 6
        have y7 : wz.cell? ⟨w.heap.size, 7, none⟩ = some (.slice none 0 0) := hkz.cell 7
        have y8 : wz.cell? ⟨w.heap.size, 8, none⟩ = some (.slice none 0 0) := hkz.cell 8
        have y9 : wz.cell? ⟨w.heap.size, 9, none⟩ = some (.slice none 0 0) := hkz.cell 9
        clear hbz hwz hkz hlow hres hblk
        go_wp2_with (refine wpList_store_mid rfl 38 (.tmp 2) (.tmp 59) rfl w.heap.size 0 #[.int .i64 0, .int .i64 0, .int .i64 0, .int .i64 0, .int .i64 0, .int .i64 0, .slice none 0 0, .slice none 0 0, .slice none 0 0, .slice none 0 0] rfl rfl HTh.out msg_size (one_ten 0 0 0 0 0 0 none none none none 0 0 0 0 0 0 0 0) ?_; rw [HWz.out])
        refine bodyPost_ret (v := .tuple #[.agg #[.int .i64 0, .int .i64 0, .int .i64 0, .int .i64 0, .int .i64 0, .int .i64 0, .slice none 0 0, .slice none 0 0, .slice none 0 0, .slice none 0 0], .bool false]) ?_ ?_ ?_
        case refine_2 => rfl
        case refine_3 => exact ⟨HBz.out, Or.inr ⟨HP.out, rfl⟩⟩
        simp [results, Tryz.results113, go_sem, y0, y1, y2, y3, y4, y5, y6, y7, y8, y9]
    · have HP := Lib.hid (show parseM zs = none by unfold parseM; rw [htk]; simp [HL.out, h1])
      have t1 : (p != (n : Int)) = true := by simpa using h1
      clear h1 htk hb HM
      obtain ⟨wz, hwz⟩ : ∃ wz, (v9.setCell ⟨w.heap.size + 1 + 1, 9, none⟩ (.slice A9 l9.length c9)).setCells w.heap.size 0 [.int .i64 0, .int .i64 0, .int .i64 0, .int .i64 0, .int .i64 0, .int .i64 0, .slice none 0 0, .slice none 0 0, .slice none 0 0, .slice none 0 0] = wz := ⟨_, rfl⟩
      have hbz : Below w.heap.size w wz := by rw [← hwz]; exact below_ten hlow _ _ _ _ _ _ _ _ _ _
      have hkz : Blk wz w.heap.size 38 #[.int .i64 0, .int .i64 0, .int .i64 0, .int .i64 0, .int .i64 0, .int .i64 0, .slice none 0 0, .slice none 0 0, .slice none 0 0, .slice none 0 0] := by rw [← hwz]; exact blk_ten hres _ _ _ _ _ _ _ _ _ _
      have HBz := Lib.hid hbz
      have HWz := Lib.hid hwz
      have y0 : wz.cell? ⟨w.heap.size, 0, none⟩ = some (.int .i64 0) := hkz.cell 0
      have y1 : wz.cell? ⟨w.heap.size, 1, none⟩ = some (.int .i64 0) := hkz.cell 1
      have y2 : wz.cell? ⟨w.heap.size, 2, none⟩ = some (.int .i64 0) := hkz.cell 2
      have y3 : wz.cell? ⟨w.heap.size, 3, none⟩ = some (.int .i64 0) := hkz.cell 3
      have y4 : wz.cell? ⟨w.heap.size, 4, none⟩ = some (.int .i64 0) := hkz.cell 4
      have y5 : wz.cell? ⟨w.heap.size, 5, none⟩ = some (.int .i64 0) := hkz.cell 5
      have y6 : wz.cell? ⟨w.heap.size, 6, none⟩ = some (.slice none 0 0) := hkz.cell 6
      have y7 : wz.cell? ⟨w.heap.size, 7, none⟩ = some (.slice none 0 0) := hkz.cell 7
      have y8 : wz.cell? ⟨w.heap.size, 8, none⟩ = some (.slice none 0 0) := hkz.cell 8
      have y9 : wz.cell? ⟨w.heap.size, 9, none⟩ = some (.slice none 0 0) := hkz.cell 9
      clear hbz hwz hkz hlow hres hblk
      go_wp2_with (refine wpList_store_mid rfl 38 (.tmp 2) (.tmp 59) rfl w.heap.size 0 #[.int .i64 0, .int .i64 0, .int .i64 0, .int .i64 0, .int .i64 0, .int .i64 0, .slice none 0 0, .slice none 0 0, .slice none 0 0, .slice none 0 0] rfl rfl HTh.out msg_size (one_ten 0 0 0 0 0 0 none none none none 0 0 0 0 0 0 0 0) ?_; rw [HWz.out])
      refine bodyPost_ret (v := .tuple #[.agg #[.int .i64 0, .int .i64 0, .int .i64 0, .int .i64 0, .int .i64 0, .int .i64 0, .slice none 0 0, .slice none 0 0, .slice none 0 0, .slice none 0 0], .bool false]) ?_ ?_ ?_
      case refine_2 => rfl
      case refine_3 => exact ⟨HBz.out, Or.inr ⟨HP.out, rfl⟩⟩
      simp [results, Tryz.results113, go_sem, y0, y1, y2, y3, y4, y5, y6, y7, y8, y9]
  · subst hs
    have htk : tkMsg zs 0 = none := eyed_lost HM.out
    have HP := Lib.hid (show parseM zs = none by unfold parseM; rw [htk]; split <;> rfl)
    clear htk hb HM
    obtain ⟨wz, hwz⟩ : ∃ wz, (v9.setCell ⟨w.heap.size + 1 + 1, 9, none⟩ (.slice A9 l9.length c9)).setCells w.heap.size 0 [.int .i64 0, .int .i64 0, .int .i64 0, .int .i64 0, .int .i64 0, .int .i64 0, .slice none 0 0, .slice none 0 0, .slice none 0 0, .slice none 0 0] = wz := ⟨_, rfl⟩
    have hbz : Below w.heap.size w wz := by rw [← hwz]; exact below_ten hlow _ _ _ _ _ _ _ _ _ _
    have hkz : Blk wz w.heap.size 38 #[.int .i64 0, .int .i64 0, .int .i64 0, .int .i64 0, .int .i64 0, .int .i64 0, .slice none 0 0, .slice none 0 0, .slice none 0 0, .slice none 0 0] := by rw [← hwz]; exact blk_ten hres _ _ _ _ _ _ _ _ _ _
    have HBz := Lib.hid hbz
    have HWz := Lib.hid hwz
    have y0 : wz.cell? ⟨w.heap.size, 0, none⟩ = some (.int .i64 0) := hkz.cell 0
    have y1 : wz.cell? ⟨w.heap.size, 1, none⟩ = some (.int .i64 0) := hkz.cell 1
    have y2 : wz.cell? ⟨w.heap.size, 2, none⟩ = some (.int .i64 0) := hkz.cell 2
    have y3 : wz.cell? ⟨w.heap.size, 3, none⟩ = some (.int .i64 0) := hkz.cell 3
    have y4 : wz.cell? ⟨w.heap.size, 4, none⟩ = some (.int .i64 0) := hkz.cell 4
    have y5 : wz.cell? ⟨w.heap.size, 5, none⟩ = some (.int .i64 0) := hkz.cell 5
    have y6 : wz.cell? ⟨w.heap.size, 6, none⟩ = some (.slice none 0 0) := hkz.cell 6
    have y7 : wz.cell? ⟨w.heap.size, 7, none⟩ = some (.slice none 0 0) := hkz.cell 7
    have y8 : wz.cell? ⟨w.heap.size, 8, none⟩ = some (.slice none 0 0) := hkz.cell 8
    have y9 : wz.cell? ⟨w.heap.size, 9, none⟩ = some (.slice none 0 0) := hkz.cell 9
    clear hbz hwz hkz hlow hres hblk
    go_wp2_with (refine wpList_store_mid rfl 38 (.tmp 2) (.tmp 59) rfl w.heap.size 0 #[.int .i64 0, .int .i64 0, .int .i64 0, .int .i64 0, .int .i64 0, .int .i64 0, .slice none 0 0, .slice none 0 0, .slice none 0 0, .slice none 0 0] rfl rfl HTh.out msg_size (one_ten 0 0 0 0 0 0 none none none none 0 0 0 0 0 0 0 0) ?_; rw [HWz.out])
    refine bodyPost_ret (v := .tuple #[.agg #[.int .i64 0, .int .i64 0, .int .i64 0, .int .i64 0, .int .i64 0, .int .i64 0, .slice none 0 0, .slice none 0 0, .slice none 0 0, .slice none 0 0], .bool false]) ?_ ?_ ?_
    case refine_2 => rfl
    case refine_3 => exact ⟨HBz.out, Or.inr ⟨HP.out, rfl⟩⟩
    simp [results, Tryz.results113, go_sem, y0, y1, y2, y3, y4, y5, y6, y7, y8, y9]
end Go.Proofs.YtbegjadohamkkaaGreat
