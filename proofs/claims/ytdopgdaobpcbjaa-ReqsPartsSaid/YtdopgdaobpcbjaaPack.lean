/- The contracts of pack.Req, Batch, Votes, Certs, Parts: the bytes, or none. -/
import Derived.Test.YtdopgdaobpcbjaaPutCerts
namespace Go.Proofs.Ytdopgdaobpcbjaa
open Go.RowKit

/-- Bytes in a row of the call's own, and true; or none, and false. -/
def BytesPost (ts : List Tok) (w : World) (e : Ending) (w' : World) : Prop :=
  Below w.heap.size w w' ∧ ((∃ bs A c, bytesOf ts = some bs ∧ e = .returned (.tuple #[.slice A bs.length c, .bool true]) ∧ w'.ownsRow w.heap.size 5 1 (.slice A bs.length c) bs.length (u8s bs)) ∨
    (bytesOf ts = none ∧ e = .returned (.tuple #[.slice none 0 0, .bool false])))

set_option maxHeartbeats 400000 in
theorem told_yes (B g : Nat) (bs : List Int) (w : World) (hw : Wr w B g bs) :
    Calls Try.prog 56 #[.pointer (some ⟨g, 0, none⟩), .bool true] w fun e w' => w = w' ∧ ∃ A c, e = .returned (.tuple #[.slice A bs.length c, .bool true]) ∧ w.ownsRow B 5 1 (.slice A bs.length c) bs.length (u8s bs) := by
  obtain ⟨hgB, A, c, hb, ho⟩ := hw
  have hc : w.cell? ⟨g, 0, none⟩ = some (.slice A bs.length c) := hb.cell 0
  have HO := Lib.hid ho
  clear ho hb
  go_enter Try.func56, Try.ntmps56
  go_wp2
  go_ret2
  exact ⟨rfl, A, c, rfl, HO.out⟩
set_option maxHeartbeats 400000 in
theorem told_no (g : Nat) (w : World) :
    Calls Try.prog 56 #[.pointer (some ⟨g, 0, none⟩), .bool false] w fun e w' => w = w' ∧ e = .returned (.tuple #[.slice none 0 0, .bool false]) := by
  go_enter Try.func56, Try.ntmps56
  go_wp2
  go_ret2
  exact ⟨rfl, rfl⟩
/-- A writer that is new. -/
theorem Wr.new (w : World) : Wr (w.alloc (.cells #[.slice none 0 0] 80)) w.heap.size w.heap.size [] :=
  ⟨Nat.le_refl _, none, 0, Blk.new _ _ _, World.ownsRow_nil _ _ _ _⟩
theorem BytesPost.good {ts : List Tok} {w w1 : World} {ns : List Nat} {A : Option Addr} {c n : Nat} (hc : codes ts = some ns) (hk : Kept w.heap.size w.heap.size 5 (w.alloc (.cells #[.slice none 0 0] 80)) w1)
    (hn : ([] ++ flat ns).length = n) (ho : w1.ownsRow w.heap.size 5 1 (.slice A n c) n (u8s ([] ++ flat ns))) : BytesPost ts w (.returned (.tuple #[.slice A n c, .bool true])) w1 := by
  subst hn
  exact ⟨((Below.refl _ w).alloc (Nat.le_refl _) _).trans (hk.below (Nat.le_refl _) (Nat.le_refl _) (by simp)), Or.inl ⟨_, A, c, by simp [bytesOf, hc], rfl, ho⟩⟩
theorem BytesPost.bad {ts : List Tok} {w w1 : World} (hc : codes ts = none) (hk : Kept w.heap.size w.heap.size 5 (w.alloc (.cells #[.slice none 0 0] 80)) w1) :
    BytesPost ts w (.returned (.tuple #[.slice none 0 0, .bool false])) w1 :=
  ⟨((Below.refl _ w).alloc (Nat.le_refl _) _).trans (hk.below (Nat.le_refl _) (Nat.le_refl _) (by simp)), Or.inr ⟨by simp [bytesOf, hc], rfl⟩⟩

theorem Wr.new1 (w : World) (o : Obj) : Wr ((w.alloc o).alloc (.cells #[.slice none 0 0] 80)) w.heap.size (w.heap.size + 1) [] :=
  ⟨Nat.le_succ _, none, 0, Blk.new1 _ _ _ _, World.ownsRow_nil _ _ _ _⟩
theorem BytesPost.good1 {ts : List Tok} {w w1 : World} {o : Obj} {ns : List Nat} {A : Option Addr} {c n : Nat} (hc : codes ts = some ns) (hk : Kept w.heap.size (w.heap.size + 1) 5 ((w.alloc o).alloc (.cells #[.slice none 0 0] 80)) w1)
    (hn : ([] ++ flat ns).length = n) (ho : w1.ownsRow w.heap.size 5 1 (.slice A n c) n (u8s ([] ++ flat ns))) : BytesPost ts w (.returned (.tuple #[.slice A n c, .bool true])) w1 := by
  subst hn
  exact ⟨(((Below.refl _ w).alloc (Nat.le_refl _) _).alloc (by simp) _).trans (hk.below (Nat.le_succ _) (Nat.le_refl _) (by simp; omega)), Or.inl ⟨_, A, c, by simp [bytesOf, hc], rfl, ho⟩⟩
theorem BytesPost.bad1 {ts : List Tok} {w w1 : World} {o : Obj} (hc : codes ts = none) (hk : Kept w.heap.size (w.heap.size + 1) 5 ((w.alloc o).alloc (.cells #[.slice none 0 0] 80)) w1) :
    BytesPost ts w (.returned (.tuple #[.slice none 0 0, .bool false])) w1 :=
  ⟨(((Below.refl _ w).alloc (Nat.le_refl _) _).alloc (by simp) _).trans (hk.below (Nat.le_succ _) (Nat.le_refl _) (by simp; omega)), Or.inr ⟨by simp [bytesOf, hc], rfl⟩⟩

set_option maxHeartbeats 400000 in
theorem pack_req (r : Rq) (w : World) :
    Calls Try.prog 41 #[.agg #[.int .i64 r.cl, .int .i64 r.tm, .int .i64 r.kd, .int .i64 r.ky, .int .i64 r.vl, .int .i64 r.sg]] w (BytesPost r.toks w) := by
  have HP := Lib.hid (wr_req r w.heap.size (w.heap.size + 1) [] _ (Wr.new1 w (.cells #[.int .i64 r.cl, .int .i64 r.tm, .int .i64 r.kd, .int .i64 r.ky, .int .i64 r.vl, .int .i64 r.sg] 34)) (by simp [Rq.toks]) (by simp; omega))
  go_enter Try.func41, Try.ntmps41
  go_wp2_with fail
  refine (HP.out).mono ?_
  rintro e w1 hp
  rcases hp with ⟨hk, ⟨ns, hc, rfl, hw'⟩ | ⟨hc, rfl⟩⟩
  · have HC := Lib.hid hc
    have HV := Lib.hid hw'
    have HK := Lib.hid hk
    clear hc hw' hk
    go_wp2_with fail
    refine (told_yes w.heap.size (w.heap.size + 1) _ _ HV.out).mono ?_
    rintro e w2 ⟨rfl, A, c, rfl, ho⟩
    obtain ⟨n, hn⟩ : ∃ n, ([] ++ flat ns).length = n := ⟨_, rfl⟩
    rw [hn] at ho ⊢
    have HO := Lib.hid ho
    have HN := Lib.hid hn
    clear ho hn
    go_wp2
    go_ret2
    exact BytesPost.good1 HC.out HK.out HN.out HO.out
  · have HC := Lib.hid hc
    have HK := Lib.hid hk
    clear hc hk
    go_wp2_with fail
    refine (told_no (w.heap.size + 1) _).mono ?_
    rintro e w2 ⟨rfl, rfl⟩
    go_wp2
    go_ret2
    exact BytesPost.bad1 HC.out HK.out
end Go.Proofs.Ytdopgdaobpcbjaa
