/- The contracts of pack.Req, Batch, Votes, Certs, Parts: the bytes, or none. -/
import Derived.Test.YtiffmjfbdidgkaaGreatOPutCerts
import Derived.Test.YtiffmjfbdidgkaaGreatOTakeParts
import Derived.Test.YtiffmjfbdidgkaaGreatOPen
import Derived.Test.YtiffmjfbdidgkaaGreatOS1
namespace Go.Proofs.YtiffmjfbdidgkaaGreat
open Go.RowKit

/-- Bytes in a row of the call's own, and true; or none, and false. -/
def BytesPost (ts : List Tok) (w : World) (e : Ending) (w' : World) : Prop :=
  Below w.heap.size w w' ∧ ((∃ bs A c, bytesOf ts = some bs ∧ e = .returned (.tuple #[.slice A bs.length c, .bool true]) ∧ w'.ownsRow w.heap.size 5 1 (.slice A bs.length c) bs.length (u8s bs)) ∨
    (bytesOf ts = none ∧ e = .returned (.tuple #[.slice none 0 0, .bool false])))

set_option maxHeartbeats 400000 in
theorem told_yes (B g : Nat) (bs : List Int) (w : World) (hw : Wr w B g bs) :
    Calls Tryz.prog 71 #[.pointer (some ⟨g, 0, none⟩), .bool true] w fun e w' => w = w' ∧ ∃ A c, e = .returned (.tuple #[.slice A bs.length c, .bool true]) ∧ w.ownsRow B 5 1 (.slice A bs.length c) bs.length (u8s bs) := by
  obtain ⟨hgB, A, c, hb, ho⟩ := hw
  have hc : w.cell? ⟨g, 0, none⟩ = some (.slice A bs.length c) := hb.cell 0
  have HO := Lib.hid ho
  clear ho hb
  go_enter Tryz.func71, Tryz.ntmps71
  go_wp2
  go_ret2
  exact ⟨rfl, A, c, rfl, HO.out⟩
set_option maxHeartbeats 400000 in
theorem told_no (g : Nat) (w : World) :
    Calls Tryz.prog 71 #[.pointer (some ⟨g, 0, none⟩), .bool false] w fun e w' => w = w' ∧ e = .returned (.tuple #[.slice none 0 0, .bool false]) := by
  go_enter Tryz.func71, Tryz.ntmps71
  go_wp2
  go_ret2
  exact ⟨rfl, rfl⟩
/-- A writer that is new. -/
theorem Wr.new (w : World) : Wr (w.alloc (.cells #[.slice none 0 0] 125)) w.heap.size w.heap.size [] :=
  ⟨Nat.le_refl _, none, 0, Blk.new _ _ _, World.ownsRow_nil _ _ _ _⟩
theorem BytesPost.good {ts : List Tok} {w w1 : World} {ns : List Nat} {A : Option Addr} {c n : Nat} (hc : codes ts = some ns) (hk : Kept w.heap.size w.heap.size 5 (w.alloc (.cells #[.slice none 0 0] 125)) w1)
    (hn : ([] ++ flat ns).length = n) (ho : w1.ownsRow w.heap.size 5 1 (.slice A n c) n (u8s ([] ++ flat ns))) : BytesPost ts w (.returned (.tuple #[.slice A n c, .bool true])) w1 := by
  subst hn
  exact ⟨((Below.refl _ w).alloc (Nat.le_refl _) _).trans (hk.below (Nat.le_refl _) (Nat.le_refl _) (by simp)), Or.inl ⟨_, A, c, by simp [bytesOf, hc], rfl, ho⟩⟩
theorem BytesPost.bad {ts : List Tok} {w w1 : World} (hc : codes ts = none) (hk : Kept w.heap.size w.heap.size 5 (w.alloc (.cells #[.slice none 0 0] 125)) w1) :
    BytesPost ts w (.returned (.tuple #[.slice none 0 0, .bool false])) w1 :=
  ⟨((Below.refl _ w).alloc (Nat.le_refl _) _).trans (hk.below (Nat.le_refl _) (Nat.le_refl _) (by simp)), Or.inr ⟨by simp [bytesOf, hc], rfl⟩⟩

set_option maxHeartbeats 400000 in
theorem pack_batch (l : List Rq) (A : Option Addr) (c : Nat) (w : World) (hh : Has w w.heap.size A (reqCells l)) (hsz : 6 * (listToks Rq.toks l).length ≤ 70368744177664) :
    Calls Tryz.prog 49 #[.slice A l.length c] w (BytesPost (listToks Rq.toks l) w) := by
  have HP := Lib.hid (wr_batch l A c w.heap.size w.heap.size [] _ (Wr.new w) (Reads.below ((Below.refl w.heap.size w).alloc (Nat.le_refl _) (.cells #[.slice none 0 0] 125)) (Nat.le_refl _) _ _ hh) (by simpa using hsz) (by simp))
  clear hh hsz
  go_enter Tryz.func49, Tryz.ntmps49
  go_wp2_with fail
  refine (HP.out).mono ?_
  rintro e w1 hp
  rcases hp with ⟨hk, ⟨ns, hc, rfl, hw'⟩ | ⟨hc, rfl⟩⟩
  · have HC := Lib.hid hc
    have HV := Lib.hid hw'
    have HK := Lib.hid hk
    clear hc hw' hk
    go_wp2_with fail
    refine (told_yes w.heap.size w.heap.size _ _ HV.out).mono ?_
    rintro e w2 ⟨rfl, A, c, rfl, ho⟩
    obtain ⟨n, hn⟩ : ∃ n, ([] ++ flat ns).length = n := ⟨_, rfl⟩
    rw [hn] at ho ⊢
    have HO := Lib.hid ho
    have HN := Lib.hid hn
    clear ho hn
    go_wp2
    go_ret2
    exact BytesPost.good HC.out HK.out HN.out HO.out
  · have HC := Lib.hid hc
    have HK := Lib.hid hk
    clear hc hk
    go_wp2_with fail
    refine (told_no w.heap.size _).mono ?_
    rintro e w2 ⟨rfl, rfl⟩
    go_wp2
    go_ret2
    exact BytesPost.bad HC.out HK.out
set_option maxHeartbeats 400000 in
theorem pack_votes (l : List Vt) (A : Option Addr) (c : Nat) (w : World) (hh : Has w w.heap.size A (voteCells l)) (hsz : 6 * (listToks Vt.toks l).length ≤ 70368744177664) :
    Calls Tryz.prog 50 #[.slice A l.length c] w (BytesPost (listToks Vt.toks l) w) := by
  have HP := Lib.hid (wr_votes l A c w.heap.size w.heap.size [] _ (Wr.new w) (Reads.below ((Below.refl w.heap.size w).alloc (Nat.le_refl _) (.cells #[.slice none 0 0] 125)) (Nat.le_refl _) _ _ hh) (by simpa using hsz) (by simp))
  clear hh hsz
  go_enter Tryz.func50, Tryz.ntmps50
  go_wp2_with fail
  refine (HP.out).mono ?_
  rintro e w1 hp
  rcases hp with ⟨hk, ⟨ns, hc, rfl, hw'⟩ | ⟨hc, rfl⟩⟩
  · have HC := Lib.hid hc
    have HV := Lib.hid hw'
    have HK := Lib.hid hk
    clear hc hw' hk
    go_wp2_with fail
    refine (told_yes w.heap.size w.heap.size _ _ HV.out).mono ?_
    rintro e w2 ⟨rfl, A, c, rfl, ho⟩
    obtain ⟨n, hn⟩ : ∃ n, ([] ++ flat ns).length = n := ⟨_, rfl⟩
    rw [hn] at ho ⊢
    have HO := Lib.hid ho
    have HN := Lib.hid hn
    clear ho hn
    go_wp2
    go_ret2
    exact BytesPost.good HC.out HK.out HN.out HO.out
  · have HC := Lib.hid hc
    have HK := Lib.hid hk
    clear hc hk
    go_wp2_with fail
    refine (told_no w.heap.size _).mono ?_
    rintro e w2 ⟨rfl, rfl⟩
    go_wp2
    go_ret2
    exact BytesPost.bad HC.out HK.out
set_option maxHeartbeats 400000 in
theorem pack_certs (l : List Ct) (A : Option Addr) (c : Nat) (w : World) (hh : HasCerts w w.heap.size A l) (hsz : 6 * (listToks Ct.toks l).length ≤ 70368744177664) :
    Calls Tryz.prog 51 #[.slice A l.length c] w (BytesPost (listToks Ct.toks l) w) := by
  have HP := Lib.hid (wr_certs l A c w.heap.size w.heap.size [] _ (Wr.new w) (hh.reads (Reads.below ((Below.refl w.heap.size w).alloc (Nat.le_refl _) (.cells #[.slice none 0 0] 125)) (Nat.le_refl _))) (by simpa using hsz) (by simp))
  clear hh hsz
  go_enter Tryz.func51, Tryz.ntmps51
  go_wp2_with fail
  refine (HP.out).mono ?_
  rintro e w1 hp
  rcases hp with ⟨hk, ⟨ns, hc, rfl, hw'⟩ | ⟨hc, rfl⟩⟩
  · have HC := Lib.hid hc
    have HV := Lib.hid hw'
    have HK := Lib.hid hk
    clear hc hw' hk
    go_wp2_with fail
    refine (told_yes w.heap.size w.heap.size _ _ HV.out).mono ?_
    rintro e w2 ⟨rfl, A, c, rfl, ho⟩
    obtain ⟨n, hn⟩ : ∃ n, ([] ++ flat ns).length = n := ⟨_, rfl⟩
    rw [hn] at ho ⊢
    have HO := Lib.hid ho
    have HN := Lib.hid hn
    clear ho hn
    go_wp2
    go_ret2
    exact BytesPost.good HC.out HK.out HN.out HO.out
  · have HC := Lib.hid hc
    have HK := Lib.hid hk
    clear hc hk
    go_wp2_with fail
    refine (told_no w.heap.size _).mono ?_
    rintro e w2 ⟨rfl, rfl⟩
    go_wp2
    go_ret2
    exact BytesPost.bad HC.out HK.out
set_option maxHeartbeats 400000 in
theorem pack_parts (l : List Pt) (A : Option Addr) (c : Nat) (w : World) (hh : HasParts w w.heap.size A l) (hsz : 6 * (listToks Pt.toks l).length ≤ 70368744177664) :
    Calls Tryz.prog 52 #[.slice A l.length c] w (BytesPost (listToks Pt.toks l) w) := by
  have HP := Lib.hid (put_parts l A c w.heap.size w.heap.size [] _ (Wr.new w) (hh.reads (Reads.below ((Below.refl w.heap.size w).alloc (Nat.le_refl _) (.cells #[.slice none 0 0] 125)) (Nat.le_refl _))) (by simpa using hsz) (by simp))
  clear hh hsz
  go_enter Tryz.func52, Tryz.ntmps52
  go_wp2_with fail
  refine (HP.out).mono ?_
  rintro e w1 hp
  rcases hp with ⟨hk, ⟨ns, hc, rfl, hw'⟩ | ⟨hc, rfl⟩⟩
  · have HC := Lib.hid hc
    have HV := Lib.hid hw'
    have HK := Lib.hid hk
    clear hc hw' hk
    go_wp2_with fail
    refine (told_yes w.heap.size w.heap.size _ _ HV.out).mono ?_
    rintro e w2 ⟨rfl, A, c, rfl, ho⟩
    obtain ⟨n, hn⟩ : ∃ n, ([] ++ flat ns).length = n := ⟨_, rfl⟩
    rw [hn] at ho ⊢
    have HO := Lib.hid ho
    have HN := Lib.hid hn
    clear ho hn
    go_wp2
    go_ret2
    exact BytesPost.good HC.out HK.out HN.out HO.out
  · have HC := Lib.hid hc
    have HK := Lib.hid hk
    clear hc hk
    go_wp2_with fail
    refine (told_no w.heap.size _).mono ?_
    rintro e w2 ⟨rfl, rfl⟩
    go_wp2
    go_ret2
    exact BytesPost.bad HC.out HK.out

theorem Wr.new1 (w : World) (o : Obj) : Wr ((w.alloc o).alloc (.cells #[.slice none 0 0] 125)) w.heap.size (w.heap.size + 1) [] :=
  ⟨Nat.le_succ _, none, 0, Blk.new1 _ _ _ _, World.ownsRow_nil _ _ _ _⟩
end Go.Proofs.YtiffmjfbdidgkaaGreat
/- The takers' contracts where the answer is known; lengths by name. -/
namespace Go.Proofs.YtiffmjfbdidgkaaGreat
open Go.RowKit

end Go.Proofs.YtiffmjfbdidgkaaGreat
/- The contracts of the writer of package msgs: pieces one behind the other, as long as they are there and not too many. -/
namespace Go.Proofs.YtiffmjfbdidgkaaGreat
open Go.RowKit

/-- Block g is a writer that has gathered these bytes. -/
def Gr (w : World) (B g : Nat) (bs : List Int) (bad : Bool) : Prop :=
  B ≤ g ∧ ∃ A c, Blk w g 93 #[.slice A bs.length c, .bool bad] ∧ w.ownsRow B 5 1 (.slice A bs.length c) bs.length (u8s bs)
/-- Its state: what it has gathered, or that it is bad. -/
def GrHas (w : World) (B g : Nat) (st : Option (List Int)) : Prop := ∃ bs bad, Gr w B g bs bad ∧ bs.length ≤ 65536 ∧ ((st = some bs ∧ bad = false) ∨ (st = none ∧ bad = true))
theorem Gr.new (w : World) : Gr (w.alloc (.cells #[.slice none 0 0, .bool false] 93)) w.heap.size w.heap.size [] false :=
  ⟨Nat.le_refl _, none, 0, Blk.new _ _ _, World.ownsRow_nil _ _ _ _⟩
theorem GrHas.new (w : World) : GrHas (w.alloc (.cells #[.slice none 0 0, .bool false] 93)) w.heap.size w.heap.size (capped []) := ⟨[], false, Gr.new w, Nat.zero_le _, Or.inl ⟨rfl, rfl⟩⟩
theorem GrHas.kept {w w' : World} {B g : Nat} {st : Option (List Int)} (h : GrHas w B g st) (hb : Below w.heap.size w w') : GrHas w' B g st := by
  obtain ⟨bs, bad, ⟨hg, A, c, h1, ho⟩, h2⟩ := h
  exact ⟨bs, bad, ⟨hg, A, c, h1.below hb h1.lt, below_own ho hb (Nat.le_refl _)⟩, h2⟩
theorem GrHas.alloc {w : World} {B g : Nat} {st : Option (List Int)} (h : GrHas w B g st) (o : Obj) : GrHas (w.alloc o) B g st := h.kept ((Below.refl _ w).alloc (Nat.le_refl _) o)
theorem GrHas.lt {w : World} {B g : Nat} {st : Option (List Int)} (h : GrHas w B g st) : g < w.heap.size := by
  obtain ⟨bs, bad, ⟨_, A, c, hb, _⟩, h2⟩ := h
  exact hb.lt
/-- A piece, as a call that writes one answers it: bytes and true, or none and false. -/
def Piece (w : World) (A : Option Addr) (n c : Nat) (b : Bool) (o : Option (List Int)) : Prop :=
  (∃ bs, o = some bs ∧ b = true ∧ bs.length = n ∧ Has w w.heap.size A (u8s bs) ∧ (A = none → c = 0)) ∨ (o = none ∧ b = false ∧ n = 0)
/-- What a call that writes a piece does and answers. -/
def PiecePost (o : Option (List Int)) (w : World) (e : Ending) (w' : World) : Prop :=
  Below w.heap.size w w' ∧ ∃ A n c b, e = .returned (.tuple #[.slice A n c, .bool b]) ∧ Piece w' A n c b o
theorem gr_none {w : World} {base n c s : Nat} {e : TypeId} {A : Option Addr} {xs : List Value} (h : w.ownsRow base e s (.slice A n c) n xs) : A = none → c = 0 := by
  rintro rfl
  rcases h.2 with ⟨h1, _⟩ | ⟨g, cap, cur, h1, _⟩
  · injection h1
  · cases h1
theorem BytesPost.piece {ts : List Tok} {w : World} {e : Ending} {w' : World} (h : BytesPost ts w e w') : PiecePost (bytesOf ts) w e w' := by
  obtain ⟨hb, ⟨bs, A, c, h1, rfl, ho⟩ | ⟨h1, rfl⟩⟩ := h
  · exact ⟨hb, A, _, c, true, rfl, Or.inl ⟨bs, h1, rfl, rfl, Has.own ho, gr_none ho⟩⟩
  · exact ⟨hb, none, 0, 0, false, rfl, Or.inr ⟨h1, rfl, rfl⟩⟩
theorem num_piece (z : Int) (w : World) : Calls Tryz.prog 47 #[.int .i64 z] w (PiecePost (bytesOf [.num z]) w) := by
  by_cases h : 0 ≤ z ∧ z < 1099511627776
  · obtain ⟨m, rfl⟩ := Int.eq_ofNat_of_zero_le h.1
    have hm : m < 1099511627776 := by omega
    have hc : bytesOf [.num (m : Int)] = some (enc m) := by
      have := codes_one (code_num.2 ⟨rfl, hm⟩ : (Tok.num (m : Int)).code = some m)
      simp [bytesOf, this, flat]
    refine (number_row m hm w).mono ?_
    rintro e w' ⟨g, c, rfl, ho, hb⟩
    exact ⟨hb, _, _, c, true, rfl, Or.inl ⟨enc m, hc, rfl, rfl, Has.own ho, fun h => by cases h⟩⟩
  · have hc : bytesOf [.num z] = none := by
      have : (Tok.num z).code = none := if_neg h
      simp [bytesOf, codes_none_head this]
    refine (number_none z (by omega) w).mono ?_
    rintro e w' ⟨rfl, rfl⟩
    exact ⟨Below.refl _ _, none, 0, 0, false, rfl, Or.inr ⟨hc, rfl, rfl⟩⟩
theorem sgn_piece (z : Int) (w : World) : Calls Tryz.prog 48 #[.int .i64 z] w (PiecePost (bytesOf [.sgn z]) w) := by
  by_cases h : -549755813888 ≤ z ∧ z < 549755813888
  · have hM := code_sgn_in h
    have hc : bytesOf [.sgn z] = some (enc (zigS z).toNat) := by simp [bytesOf, codes_one hM, flat]
    refine (signum_row z h.1 h.2 w).mono ?_
    rintro e w' ⟨g, c, rfl, ho, hb⟩
    exact ⟨hb, _, _, c, true, rfl, Or.inl ⟨_, hc, rfl, rfl, Has.own ho, fun h => by cases h⟩⟩
  · have hc : bytesOf [.sgn z] = none := by simp [bytesOf, codes_none_head (code_sgn_out h)]
    refine (signum_none z (by omega) w).mono ?_
    rintro e w' ⟨rfl, rfl⟩
    exact ⟨Below.refl _ _, none, 0, 0, false, rfl, Or.inr ⟨hc, rfl, rfl⟩⟩
/-- What more bytes do to a writer. -/
theorem gr_grown {w0 w1 w2 : World} {B g : Nat} {bs cs : List Int} {bad : Bool} {A : Option Addr} {c n : Nat} {v : Value} (hg : B ≤ g) (hk : Kept B g 5 w0 w1) (hb : Blk w1 g 93 #[.slice A n c, .bool bad]) (hn : bs.length = n)
    (ho : w1.ownsRow B 5 1 (.slice A n c) n (u8s bs)) (ho2 : w2.ownsRow B 5 1 v (n + cs.length) (u8s bs ++ u8s cs)) (hgr : w1.grownBy w2 (Value.slice A n c).ownBlock) :
    Gr (w2.setCell ⟨g, 0, none⟩ v) B g (bs ++ cs) bad ∧ Kept B g 5 w0 (w2.setCell ⟨g, 0, none⟩ v) := by
  obtain ⟨A', c', rfl, _, _⟩ := own_slice ho2
  have hb2 := hb.grown hgr (fun he => own_blk_ne ho hb (by decide) he.symm)
  refine ⟨⟨hg, A', c', ?_, ?_⟩, (hk.grown ho (Nat.le_refl _) hgr).set_ _ _⟩
  · rw [List.length_append, hn]; exact hb2.set_ 0 _
  · rw [List.length_append, hn, u8s_app]
    exact own_far ho2 (fun he => own_blk_ne ho2 hb2 (by decide) he) _
/-- A writer that has become bad. -/
theorem gr_bad {w : World} {B g : Nat} {bs : List Int} {bad : Bool} (h : Gr w B g bs bad) (hl : bs.length ≤ 65536) : GrHas (w.setCell ⟨g, 1, none⟩ (.bool true)) B g none ∧ Kept B g 5 w (w.setCell ⟨g, 1, none⟩ (.bool true)) := by
  obtain ⟨hg, A, c, hb, ho⟩ := h
  exact ⟨⟨bs, true, ⟨hg, A, c, hb.set_ 1 _, own_far ho (fun he => own_blk_ne ho hb (by decide) he) _⟩, hl, Or.inr ⟨rfl, rfl⟩⟩, (Kept.refl _ _ _ _).set_ _ _⟩
set_option maxHeartbeats 2000000 in
set_option maxRecDepth 100000 in
theorem gr_put {w : World} {B g : Nat} {st : Option (List Int)} (h : GrHas w B g st) {A : Option Addr} {n c : Nat} {b : Bool} {o : Option (List Int)} (hp : Piece w A n c b o) (hn : n ≤ 4503599627370496) (hB : B ≤ w.heap.size) :
    Calls Tryz.prog 46 #[.pointer (some ⟨g, 0, none⟩), .slice A n c, .bool b] w fun e w' => e = .returned (.tuple #[]) ∧ Kept B g 5 w w' ∧ GrHas w' B g (gput st o) := by
  obtain ⟨i0, hi, hz0, hz1, hz2⟩ := info_parts Tryz.info5
  obtain ⟨bs, bad, hgr, hle, hst⟩ := h
  obtain ⟨m, hm⟩ : ∃ m, bs.length = m := ⟨_, rfl⟩
  obtain ⟨hgB, A', c', hblk, hown⟩ := hgr
  have HGR := Lib.hid (show Gr w B g bs bad from ⟨hgB, A', c', hblk, hown⟩)
  rw [hm] at hblk hown
  have hce0 : w.cell? ⟨g, 0, none⟩ = some (.slice A' m c') := hblk.cell 0
  have hce1 : w.cell? ⟨g, 1, none⟩ = some (.bool bad) := hblk.cell 1
  have hfr0 := hblk.frozen 0
  have hfr1 := hblk.frozen 1
  have HBA := Lib.hid (gr_bad HGR.out hle)
  have hml : m ≤ 65536 := by omega
  have HM := Lib.hid hm
  have HO := Lib.hid hown
  have HBl := Lib.hid hblk
  clear hm hown hblk
  rcases hp with ⟨cs, rfl, rfl, hcn, hh, hnil⟩ | ⟨rfl, rfl, rfl⟩
  · by_cases hl : m + n ≤ 65536
    · have t0 : decide ((65536 : Int) < (m : Int) + (n : Int)) = false := decide_eq_false (by omega)
      have HN := Lib.hid hcn
      have HH := Lib.hid hh
      cases bad
      · obtain rfl : st = some bs := by simpa using hst
        have HG := Lib.hid (show gput (some bs) (some cs) = some (bs ++ cs) from if_pos (by rw [HM.out, hcn]; exact hl))
        have HL := Lib.hid (show (bs ++ cs).length ≤ 65536 by rw [List.length_append, HM.out, hcn]; exact hl)
        clear hst hcn hh HBA HGR
        go_enter Tryz.func46, Tryz.ntmps46
        go_wp2_with (at_builtin; refine wpList_app rfl (.tmp 31) (.tmp 32) 56 rfl B 5 i0 (.int .u8 0) 1 Tryz.underlying56 hi hz0 hz1 hz2 rfl _ _ _ rfl HO.out _ A n c (u8s cs) rfl (by rw [u8s_len]; exact HN.out) HH.out hnil (u8s_one _) (by unfold maxLen; omega) (by omega) hB ?_)
        intro v2 w2 ho2 hg2 hb2
        have HP := Lib.hid (gr_grown hgB (Kept.refl _ _ _ _) HBl.out HM.out HO.out (cs := cs) (by rw [HN.out]; exact ho2) hg2)
        have hblk2 := HBl.out.grown hg2 (fun he => own_blk_ne HO.out HBl.out (by decide) he.symm)
        have hce2 : w2.cell? ⟨g, 0, none⟩ = some (.slice A' m c') := hblk2.cell 0
        have hfr2 := hblk2.frozen 0
        obtain ⟨A1, d1, rfl, _, _⟩ := own_slice ho2
        clear hce0 hce1 hfr0 hfr1 ho2 hg2 hb2 hblk2
        go_wp2
        go_end0
        exact ⟨rfl, HP.out.2, _, _, HP.out.1, HL.out, Or.inl ⟨HG.out, rfl⟩⟩
      · obtain rfl : st = none := by simpa using hst
        have HR := Lib.hid (show GrHas w B g none from ⟨bs, true, HGR.out, hle, Or.inr ⟨rfl, rfl⟩⟩)
        clear hst hcn hh HBA HGR
        go_enter Tryz.func46, Tryz.ntmps46
        go_wp2_with fail
        go_end0
        exact ⟨rfl, Kept.refl _ _ _ _, HR.out⟩
    · have t0 : decide ((65536 : Int) < (m : Int) + (n : Int)) = true := decide_eq_true (by omega)
      have HG := Lib.hid (show gput st (some cs) = none by
        rcases hst with ⟨rfl, _⟩ | ⟨rfl, _⟩
        · exact if_neg (by rw [HM.out, hcn]; exact hl)
        · rfl)
      rw [HG.out]
      clear hst hcn hh HGR
      go_enter Tryz.func46, Tryz.ntmps46
      go_wp2_with fail
      go_end0
      exact ⟨rfl, HBA.out.2, HBA.out.1⟩
  · have HG := Lib.hid (show gput st none = none by cases st <;> rfl)
    rw [HG.out]
    clear hst HGR
    go_enter Tryz.func46, Tryz.ntmps46
    go_wp2_with fail
    go_end0
    exact ⟨rfl, HBA.out.2, HBA.out.1⟩
/-- What told tells: bytes in a row of the call's own, or none. -/
def ToldPost (o : Option (List Int)) (B : Nat) (w : World) (e : Ending) (w' : World) : Prop :=
  w = w' ∧ ((∃ bs A c, o = some bs ∧ e = .returned (.tuple #[.slice A bs.length c, .bool true]) ∧ w.ownsRow B 5 1 (.slice A bs.length c) bs.length (u8s bs)) ∨
    (o = none ∧ e = .returned (.tuple #[.slice none 0 0, .bool false])))
set_option maxHeartbeats 400000 in
theorem gr_told {w : World} {B g : Nat} {st : Option (List Int)} (h : GrHas w B g st) :
    Calls Tryz.prog 53 #[.pointer (some ⟨g, 0, none⟩)] w (ToldPost st B w) := by
  obtain ⟨bs, bad, ⟨hgB, A, c, hblk, hown⟩, hle, hst⟩ := h
  obtain ⟨m, hm⟩ : ∃ m, bs.length = m := ⟨_, rfl⟩
  have HOw := Lib.hid hown
  rw [hm] at hblk
  have hce0 : w.cell? ⟨g, 0, none⟩ = some (.slice A m c) := hblk.cell 0
  have hce1 : w.cell? ⟨g, 1, none⟩ = some (.bool bad) := hblk.cell 1
  have HM := Lib.hid hm
  clear hblk hm hown
  rcases hst with ⟨rfl, rfl⟩ | ⟨rfl, rfl⟩
  · go_enter Tryz.func53, Tryz.ntmps53
    go_wp2_with fail
    go_ret2
    exact ⟨rfl, Or.inl ⟨bs, A, c, rfl, by rw [HM.out]; rfl, HOw.out⟩⟩
  · go_enter Tryz.func53, Tryz.ntmps53
    go_wp2_with fail
    go_ret2
    exact ⟨rfl, Or.inr ⟨rfl, rfl⟩⟩
end Go.Proofs.YtiffmjfbdidgkaaGreat
