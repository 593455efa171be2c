/- The contracts of the document's own pen: certificates, parts; and of Req, Batch, Votes, Certs, Parts over it. -/
import Derived.Test.YtdopgdaobpcbjaaPenLists
import Derived.Test.YtdopgdaobpcbjaaPack
namespace Go.Proofs.Ytdopgdaobpcbjaa
open Go.RowKit

theorem Kept.cellB {B g : Nat} {t : TypeId} {a b : World} (h : Kept B g t a b) (hg : B ≤ g) {p : Addr} {v : Value} (hc : a.cell? p = some v) (hp : p.block < B) : b.cell? p = some v :=
  (World.cell?_of_block (w := a) (h.block p.block (block_lt hc) (by omega) (fun h2 => by omega))).trans hc

/-- What holds at the loop's head: so many things have been written, or it is bad. -/
def PenCertsRel (l : List Ct) (w : World) (B g L : Nat) (st : Option (List Int)) (x : Value) (wr : World) : Prop :=
  ∃ k : Nat, x = .int .i64 k ∧ k ≤ l.length ∧ Kept B g 5 w wr ∧ PenHas wr B g (L + 6 * (Tok.len l.length :: (l.take k).flatMap Ct.toks).length) (penStep st (.len l.length :: (l.take k).flatMap Ct.toks))
/-- What holds at the loop's head: so many things have been written, or it is bad. -/
def PenPartsRel (l : List Pt) (w : World) (B g L : Nat) (st : Option (List Int)) (x : Value) (wr : World) : Prop :=
  ∃ k : Nat, x = .int .i64 k ∧ k ≤ l.length ∧ Kept B g 5 w wr ∧ PenHas wr B g (L + 6 * (Tok.len l.length :: (l.take k).flatMap Pt.toks).length) (penStep st (.len l.length :: (l.take k).flatMap Pt.toks))
/-- What done answers. -/
def DonePost (B : Nat) (st : Option (List Int)) (w : World) (e : Ending) (w' : World) : Prop :=
  w = w' ∧ ((∃ bs A c, st = some bs ∧ e = .returned (.tuple #[.slice A bs.length c, .bool true]) ∧ w.ownsRow B 5 1 (.slice A bs.length c) bs.length (u8s bs)) ∨ (st = none ∧ e = .returned (.tuple #[.slice none 0 0, .bool false])))
set_option maxHeartbeats 400000 in
theorem pen_done (B g L : Nat) (st : Option (List Int)) (w : World) (hw : PenHas w B g L st) :
    Calls Try.prog 59 #[.pointer (some ⟨g, 0, none⟩)] w (DonePost B st w) := by
  obtain ⟨bs, bad, ⟨_, A2, c2, hb, ho⟩, _, hs⟩ := hw
  rcases hs with ⟨rfl, rfl⟩ | ⟨rfl, rfl⟩
  · have ce0 : w.cell? ⟨g, 0, none⟩ = some (.slice A2 bs.length c2) := hb.cell 0
    have ce1 : w.cell? ⟨g, 1, none⟩ = some (.bool false) := hb.cell 1
    have HO := Lib.hid ho
    clear hb ho
    go_enter Try.func59, Try.ntmps59
    go_wp2
    go_ret2
    exact ⟨rfl, Or.inl ⟨bs, A2, c2, rfl, rfl, HO.out⟩⟩
  · have ce1 : w.cell? ⟨g, 1, none⟩ = some (.bool true) := hb.cell 1
    clear hb ho
    go_enter Try.func59, Try.ntmps59
    go_wp2
    go_ret2
    exact ⟨rfl, Or.inr ⟨rfl, rfl⟩⟩
theorem PenHas.new (w : World) : PenHas (w.alloc (.cells #[.slice none 0 0, .bool false] 85)) w.heap.size w.heap.size 0 (some []) :=
  ⟨[], false, ⟨Nat.le_refl _, none, 0, Blk.new _ _ _, World.ownsRow_nil _ _ _ _⟩, Nat.le_refl _, Or.inl ⟨rfl, rfl⟩⟩
theorem PenHas.new1 (w : World) (o : Obj) : PenHas ((w.alloc o).alloc (.cells #[.slice none 0 0, .bool false] 85)) w.heap.size (w.heap.size + 1) 0 (some []) :=
  ⟨[], false, ⟨Nat.le_succ _, none, 0, Blk.new1 _ _ _ _, World.ownsRow_nil _ _ _ _⟩, Nat.le_refl _, Or.inl ⟨rfl, rfl⟩⟩
theorem penStep_new (ts : List Tok) : penStep (some []) ts = bytesOf ts := by
  simp only [penStep, bytesOf]
  cases codes ts <;> simp
set_option maxHeartbeats 400000 in
theorem ref_req (r : Rq) (w : World) :
    Calls Try.prog 42 #[.agg #[.int .i64 r.cl, .int .i64 r.tm, .int .i64 r.kd, .int .i64 r.ky, .int .i64 r.vl, .int .i64 r.sg]] w (BytesPost r.toks w) := by
  have HP := Lib.hid (pen_req r w.heap.size (w.heap.size + 1) 0 (some []) _ (PenHas.new1 w (.cells #[.int .i64 r.cl, .int .i64 r.tm, .int .i64 r.kd, .int .i64 r.ky, .int .i64 r.vl, .int .i64 r.sg] 34)) (by simp [Rq.toks]) (by simp; omega))
  go_enter Try.func42, Try.ntmps42
  go_wp2_with fail
  refine (HP.out).mono ?_
  rintro e w1 ⟨rfl, hk, hh⟩
  have HK := Lib.hid hk
  have HH := Lib.hid hh
  clear hk hh
  go_wp2_with fail
  refine (pen_done w.heap.size (w.heap.size + 1) _ _ _ HH.out).mono ?_
  have hb : Below w.heap.size w w1 := (((Below.refl _ w).alloc (Nat.le_refl _) _).alloc (by simp) _).trans (HK.out.below (Nat.le_succ _) (Nat.le_refl _) (by simp; omega))
  rintro e w2 ⟨rfl, ⟨bs, A2, c2, hst, rfl, ho⟩ | ⟨hst, rfl⟩⟩
  · rw [penStep_new] at hst
    have HR : Hid (BytesPost r.toks w (.returned (.tuple #[.slice A2 bs.length c2, .bool true])) w1) := ⟨hb, Or.inl ⟨bs, A2, c2, hst, rfl, ho⟩⟩
    clear hst ho
    go_wp2
    go_ret2
    exact HR.out
  · rw [penStep_new] at hst
    have HR : Hid (BytesPost r.toks w (.returned (.tuple #[.slice none 0 0, .bool false])) w1) := ⟨hb, Or.inr ⟨hst, rfl⟩⟩
    clear hst
    go_wp2
    go_ret2
    exact HR.out
end Go.Proofs.Ytdopgdaobpcbjaa
