/- The contracts of the writer's lists. -/
import Derived.Test.YtiffmjfbdidgkaaGreatOWriter
import Derived.Test.YtiffmjfbdidgkaaGreatOS1
import Derived.Test.YtiffmjfbdidgkaaGreatORefLeaves
namespace Go.Proofs.YtiffmjfbdidgkaaGreat
open Go.RowKit

/-- What holds at the head of putList's loop: so many things have been written. -/
def PutRel {α : Type} (f : α → List Tok) (l : List α) (w : World) (B g : Nat) (bs : List Int) (x : Value) (wr : World) : Prop :=
  ∃ (k : Nat) (ns : List Nat), x = .int .i64 k ∧ k ≤ l.length ∧ codes (.len l.length :: (l.take k).flatMap f) = some ns ∧ Wr wr B g (bs ++ flat ns) ∧ Kept B g 5 w wr

theorem len_num {n : Nat} (h : n ≤ 256) : codes ([(n : Int)].map .num) = some [n] ∧ codes [.len n] = some [n] :=
  ⟨codes_one (code_num.2 ⟨rfl, by omega⟩), codes_one (code_len.2 ⟨rfl, h⟩)⟩
theorem PutRel.start {α : Type} {f : α → List Tok} {l : List α} {w w1 : World} {B g : Nat} {bs : List Int} (hn : l.length ≤ 256) {e : Ending} (h : WrPost w B g bs ([(l.length : Int)].map .num) e w1) :
    e = .returned (.bool true) ∧ PutRel f l w B g bs (.int .i64 0) w1 := by
  obtain ⟨hk, ⟨ns, h1, h2, h3⟩ | ⟨h1, _⟩⟩ := h
  · rw [(len_num hn).1] at h1
    injection h1 with h1
    subst h1
    exact ⟨h2, 0, _, rfl, Nat.zero_le _, by simpa using (len_num hn).2, h3, hk⟩
  · rw [(len_num hn).1] at h1; cases h1
theorem put_more {α : Type} {f : α → List Tok} {l : List α} {k : Nat} (hk : k < l.length) : (Tok.len l.length :: (l.take (k + 1)).flatMap f) = (Tok.len l.length :: (l.take k).flatMap f) ++ f l[k] := by
  rw [List.take_succ_eq_append_getElem hk, List.flatMap_append]
  simp
theorem put_split {α : Type} {f : α → List Tok} {l : List α} {k : Nat} (hk : k < l.length) : listToks f l = (Tok.len l.length :: (l.take k).flatMap f) ++ (f l[k] ++ (l.drop (k + 1)).flatMap f) := by
  unfold listToks
  conv => lhs; rw [← List.take_append_drop (k + 1) l, List.flatMap_append, List.take_succ_eq_append_getElem hk, List.flatMap_append]
  simp

theorem PutRel.next {α : Type} {f : α → List Tok} {l : List α} {w wr w2 : World} {B g : Nat} {bs : List Int} {k : Nat} {ns : List Nat} {x : α} {e : Ending} (hlt : k < l.length) (hx : l[k] = x)
    (hc : codes (.len l.length :: (l.take k).flatMap f) = some ns) (hk : Kept B g 5 w wr) (hp : WrPost wr B g (bs ++ flat ns) (f x) e w2) :
    (e = .returned (.bool true) ∧ PutRel f l w B g bs (.int .i64 ((k + 1 : Nat) : Int)) w2) ∨ (e = .returned (.bool false) ∧ WrPost w B g bs (listToks f l) (.returned (.bool false)) w2) := by
  subst hx
  obtain ⟨hk2, ⟨na, h1, h2, h3⟩ | ⟨h1, h2⟩⟩ := hp
  · refine Or.inl ⟨h2, k + 1, ns ++ na, rfl, hlt, ?_, by rw [flat_app, ← List.append_assoc]; exact h3, hk.trans hk2⟩
    rw [put_more hlt]
    exact codes_app_some hc h1
  · refine Or.inr ⟨h2, WrPost.bad ?_ (hk.trans hk2)⟩
    rw [put_split hlt]
    exact codes_app_none2 (codes_app_none1 h1)
theorem put_bound {α : Type} {f : α → List Tok} {l : List α} {bs : List Int} {k : Nat} {ns : List Nat} {x : α} {n : Nat} (hlt : k < l.length) (hx : l[k] = x)
    (hc : codes (.len l.length :: (l.take k).flatMap f) = some ns) (hs : bs.length + 6 * (listToks f l).length ≤ n) : (bs ++ flat ns).length + 6 * (f x).length ≤ n := by
  subst hx
  refine wr_len hc ?_
  rw [put_split hlt] at hs
  simp only [List.length_append] at hs ⊢
  omega
theorem PutRel.done {α : Type} {f : α → List Tok} {l : List α} {w wr : World} {B g : Nat} {bs : List Int} {k : Nat} {ns : List Nat} (hk : l.length ≤ k)
    (hc : codes (.len l.length :: (l.take k).flatMap f) = some ns) (hv : Wr wr B g (bs ++ flat ns)) (hkp : Kept B g 5 w wr) : WrPost w B g bs (listToks f l) (.returned (.bool true)) wr := by
  rw [List.take_of_length_le hk] at hc
  exact WrPost.good hc hv hkp
theorem put_long {α : Type} {f : α → List Tok} {l : List α} {w : World} {B g : Nat} {bs : List Int} (hl : 256 < l.length) : WrPost w B g bs (listToks f l) (.returned (.bool false)) w :=
  WrPost.bad (codes_none_head (by simp only [Tok.code]; rw [if_neg (by omega)])) (Kept.refl _ _ _ _)

set_option maxHeartbeats 1000000 in
theorem put_reqs (l : List Rq) (A : Option Addr) (c B g : Nat) (bs : List Int) (w : World) (hw : Wr w B g bs) (hh : Has w B A (reqCells l))
    (hsz : bs.length + 6 * (listToks Rq.toks l).length ≤ 70368744177664) (hB : B ≤ w.heap.size) :
    Calls Tryz.prog 84 #[.pointer (some ⟨g, 0, none⟩), .slice A l.length c, .func (.func 85) #[] #[]] w (WrPost w B g bs (listToks Rq.toks l)) := by
  have HW := Lib.hid hw
  have HH := Lib.hid hh
  have HS := Lib.hid hsz
  have hs1 : bs.length + 6 * 1 ≤ 70368744177664 := by simp [listToks] at hsz; omega
  clear hw hh hsz
  by_cases hlen : l.length ≤ 256
  · have HN := Lib.hid (show [(l.length : Int)].length = 1 from rfl)
    have HBk := Lib.hid (Blk.new w 3 #[.int .i64 (l.length : Int)])
    go_enter Tryz.func84, Tryz.ntmps84
    go_wp2_with fail
    refine (wr_numbers_is (B := B) HN.out hs1 _ (HW.out.alloc _) HBk.out (by simp; omega)).mono ?_
    rintro e w1 hp
    obtain ⟨rfl, hr⟩ := PutRel.start (f := Rq.toks) hlen (hp.from ((Kept.refl B g 5 w).alloc (.cells #[.int .i64 (l.length : Int)] 3)))
    have HR := Lib.hid hr
    clear hp hr HBk
    go_wp2_with fail
    go_loopw [22] (fun x wr => PutRel Rq.toks l w B g bs x wr) (fun x _ => l.length - (intOf x).toNat)
    case atStart => exact HR.out
    case round =>
      obtain ⟨k, ns, rfl, hk, hcd, hwr, hkp⟩ := hrel
      have hbs := hkp.size
      have HC := Lib.hid hcd
      have HV := Lib.hid hwr
      have HK := Lib.hid hkp
      clear hcd hwr hkp
      by_cases hlt : k < l.length
      · obtain ⟨ad, rfl, hab, h0, h1, h2, h3, h4, h5⟩ := (HK.out.has HW.out.1 HH.out).req hlt
        obtain ⟨r, hr⟩ : ∃ r, l[k] = r := ⟨_, rfl⟩
        rw [hr] at h0 h1 h2 h3 h4 h5
        have HR := Lib.hid hr
        clear hr
        have HE := Lib.hid (put_bound hlt HR.out HC.out HS.out)
        go_wp2_with fail
        refine (wr_req r B g _ _ (HV.out.alloc _) HE.out (by simp; omega)).mono ?_
        rintro e w2 hp
        have hn := PutRel.next hlt HR.out HC.out HK.out (hp.from ((Kept.refl B g 5 wr).alloc (.cells #[.int .i64 r.cl, .int .i64 r.tm, .int .i64 r.kd, .int .i64 r.ky, .int .i64 r.vl, .int .i64 r.sg] 106)))
        clear hp h0 h1 h2 h3 h4 h5
        rcases hn with ⟨rfl, hn⟩ | ⟨rfl, hn⟩
        · have HN2 := Lib.hid hn
          clear hn
          go_wp2
          go_roundw
          case rel => exact HN2.out
          case measure => simp [intOf]; omega
        · have HN2 := Lib.hid hn
          clear hn
          go_wp2
          go_ret
          exact HN2.out
      · have HD := Lib.hid (PutRel.done (by omega) HC.out HV.out HK.out)
        go_wp2
        go_ret
        exact HD.out
  · have HD := Lib.hid (put_long (f := Rq.toks) (l := l) (w := w) (B := B) (g := g) (bs := bs) (by omega))
    have hlen' : 256 < l.length := by omega
    go_enter Tryz.func84, Tryz.ntmps84
    go_wp2
    go_ret
    exact HD.out
set_option maxHeartbeats 1000000 in
theorem put_votes (l : List Vt) (A : Option Addr) (c B g : Nat) (bs : List Int) (w : World) (hw : Wr w B g bs) (hh : Has w B A (voteCells l))
    (hsz : bs.length + 6 * (listToks Vt.toks l).length ≤ 70368744177664) (hB : B ≤ w.heap.size) :
    Calls Tryz.prog 86 #[.pointer (some ⟨g, 0, none⟩), .slice A l.length c, .func (.func 87) #[] #[]] w (WrPost w B g bs (listToks Vt.toks l)) := by
  have HW := Lib.hid hw
  have HH := Lib.hid hh
  have HS := Lib.hid hsz
  have hs1 : bs.length + 6 * 1 ≤ 70368744177664 := by simp [listToks] at hsz; omega
  clear hw hh hsz
  by_cases hlen : l.length ≤ 256
  · have HN := Lib.hid (show [(l.length : Int)].length = 1 from rfl)
    have HBk := Lib.hid (Blk.new w 3 #[.int .i64 (l.length : Int)])
    go_enter Tryz.func86, Tryz.ntmps86
    go_wp2_with fail
    refine (wr_numbers_is (B := B) HN.out hs1 _ (HW.out.alloc _) HBk.out (by simp; omega)).mono ?_
    rintro e w1 hp
    obtain ⟨rfl, hr⟩ := PutRel.start (f := Vt.toks) hlen (hp.from ((Kept.refl B g 5 w).alloc (.cells #[.int .i64 (l.length : Int)] 3)))
    have HR := Lib.hid hr
    clear hp hr HBk
    go_wp2_with fail
    go_loopw [22] (fun x wr => PutRel Vt.toks l w B g bs x wr) (fun x _ => l.length - (intOf x).toNat)
    case atStart => exact HR.out
    case round =>
      obtain ⟨k, ns, rfl, hk, hcd, hwr, hkp⟩ := hrel
      have hbs := hkp.size
      have HC := Lib.hid hcd
      have HV := Lib.hid hwr
      have HK := Lib.hid hkp
      clear hcd hwr hkp
      by_cases hlt : k < l.length
      · obtain ⟨ad, rfl, hab, h0, h1⟩ := (HK.out.has HW.out.1 HH.out).vote hlt
        obtain ⟨r, hr⟩ : ∃ r, l[k] = r := ⟨_, rfl⟩
        rw [hr] at h0 h1
        have HR := Lib.hid hr
        clear hr
        have HE := Lib.hid (put_bound hlt HR.out HC.out HS.out)
        go_wp2_with fail
        refine (wr_vote r B g _ _ (HV.out.alloc _) HE.out (by simp; omega)).mono ?_
        rintro e w2 hp
        have hn := PutRel.next hlt HR.out HC.out HK.out (hp.from ((Kept.refl B g 5 wr).alloc (.cells #[.int .i64 r.nd, .int .i64 r.sg] 39)))
        clear hp h0 h1
        rcases hn with ⟨rfl, hn⟩ | ⟨rfl, hn⟩
        · have HN2 := Lib.hid hn
          clear hn
          go_wp2
          go_roundw
          case rel => exact HN2.out
          case measure => simp [intOf]; omega
        · have HN2 := Lib.hid hn
          clear hn
          go_wp2
          go_ret
          exact HN2.out
      · have HD := Lib.hid (PutRel.done (by omega) HC.out HV.out HK.out)
        go_wp2
        go_ret
        exact HD.out
  · have HD := Lib.hid (put_long (f := Vt.toks) (l := l) (w := w) (B := B) (g := g) (bs := bs) (by omega))
    have hlen' : 256 < l.length := by omega
    go_enter Tryz.func86, Tryz.ntmps86
    go_wp2
    go_ret
    exact HD.out

set_option maxHeartbeats 400000 in
theorem wr_batch (l : List Rq) (A : Option Addr) (c B g : Nat) (bs : List Int) (w : World) (hw : Wr w B g bs) (hh : Has w B A (reqCells l))
    (hsz : bs.length + 6 * (listToks Rq.toks l).length ≤ 70368744177664) (hB : B ≤ w.heap.size) :
    Calls Tryz.prog 72 #[.pointer (some ⟨g, 0, none⟩), .slice A l.length c] w (WrPost w B g bs (listToks Rq.toks l)) := by
  have HP := Lib.hid (put_reqs l A c B g bs w hw hh hsz hB)
  clear hw hh hsz
  go_enter Tryz.func72, Tryz.ntmps72
  go_wp2_with fail
  refine (HP.out).mono ?_
  rintro e w' hp
  rcases hp with ⟨hk, ⟨ns, hc, rfl, hw'⟩ | ⟨hc, rfl⟩⟩
  · have HQ := Lib.hid (WrPost.good hc hw' hk)
    clear hc hw' hk
    go_wp2
    go_ret
    exact HQ.out
  · have HQ := Lib.hid (WrPost.bad (bs := bs) hc hk)
    clear hc hk
    go_wp2
    go_ret
    exact HQ.out
set_option maxHeartbeats 400000 in
theorem wr_votes (l : List Vt) (A : Option Addr) (c B g : Nat) (bs : List Int) (w : World) (hw : Wr w B g bs) (hh : Has w B A (voteCells l))
    (hsz : bs.length + 6 * (listToks Vt.toks l).length ≤ 70368744177664) (hB : B ≤ w.heap.size) :
    Calls Tryz.prog 73 #[.pointer (some ⟨g, 0, none⟩), .slice A l.length c] w (WrPost w B g bs (listToks Vt.toks l)) := by
  have HP := Lib.hid (put_votes l A c B g bs w hw hh hsz hB)
  clear hw hh hsz
  go_enter Tryz.func73, Tryz.ntmps73
  go_wp2_with fail
  refine (HP.out).mono ?_
  rintro e w' hp
  rcases hp with ⟨hk, ⟨ns, hc, rfl, hw'⟩ | ⟨hc, rfl⟩⟩
  · have HQ := Lib.hid (WrPost.good hc hw' hk)
    clear hc hw' hk
    go_wp2
    go_ret
    exact HQ.out
  · have HQ := Lib.hid (WrPost.bad (bs := bs) hc hk)
    clear hc hk
    go_wp2
    go_ret
    exact HQ.out
end Go.Proofs.YtiffmjfbdidgkaaGreat
/- The contract of the document's viewChange, whatever its arguments; of has. -/
namespace Go.Proofs.YtiffmjfbdidgkaaGreat
open Go.RowKit Go.Sort

end Go.Proofs.YtiffmjfbdidgkaaGreat
