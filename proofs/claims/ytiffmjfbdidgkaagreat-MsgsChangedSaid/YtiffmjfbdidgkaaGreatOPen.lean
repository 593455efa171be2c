/- The contracts of the document's own pen: fields one behind the other; bad once one cannot be written. -/
import Derived.Test.YtiffmjfbdidgkaaGreatOWriter
import Derived.Test.YtiffmjfbdidgkaaGreatOS0
namespace Go.Proofs.YtiffmjfbdidgkaaGreat
open Go.RowKit

/-- Block g is a pen that has written these bytes. -/
def Pen (w : World) (B g : Nat) (bs : List Int) (bad : Bool) : Prop :=
  B ≤ g ∧ ∃ A c, Blk w g 85 #[.slice A bs.length c, .bool bad] ∧ w.ownsRow B 5 1 (.slice A bs.length c) bs.length (u8s bs)
/-- Its state: what it has written, or that it is bad; at most L bytes lie there. -/
def PenHas (w : World) (B g L : Nat) (st : Option (List Int)) : Prop := ∃ bs bad, Pen w B g bs bad ∧ bs.length ≤ L ∧ ((st = some bs ∧ bad = false) ∨ (st = none ∧ bad = true))
def penStep (st : Option (List Int)) (ts : List Tok) : Option (List Int) := match st, codes ts with
  | some bs, some ns => some (bs ++ flat ns)
  | _, _ => none
theorem penStep_none (ts : List Tok) : penStep none ts = none := rfl
theorem penStep_app (st : Option (List Int)) (ta tb : List Tok) : penStep st (ta ++ tb) = penStep (penStep st ta) tb := by
  cases st with
  | none => rfl
  | some bs =>
    simp only [penStep, codes_app]
    cases codes ta <;> cases codes tb <;> simp [flat_app]
theorem penStep_nil (st : Option (List Int)) : penStep st [] = st := by
  cases st <;> simp [penStep, codes, flat]
/-- What a call of the pen's does. -/
def PenPost (w : World) (B g L : Nat) (st : Option (List Int)) (ts : List Tok) (e : Ending) (w' : World) : Prop :=
  e = .returned (.tuple #[]) ∧ Kept B g 5 w w' ∧ PenHas w' B g (L + 6 * ts.length) (penStep st ts)
theorem Pen.alloc {w : World} {B g : Nat} {bs : List Int} {bad : Bool} (h : Pen w B g bs bad) (o : Obj) : Pen (w.alloc o) B g bs bad := by
  obtain ⟨hg, A, c, hb, ho⟩ := h
  exact ⟨hg, A, c, hb.alloc o, ho.alloc o⟩
theorem PenHas.alloc {w : World} {B g L : Nat} {st : Option (List Int)} (h : PenHas w B g L st) (o : Obj) : PenHas (w.alloc o) B g L st := by
  obtain ⟨bs, bad, h1, h2⟩ := h
  exact ⟨bs, bad, h1.alloc o, h2⟩
theorem PenHas.more {w : World} {B g L L' : Nat} {st : Option (List Int)} (h : PenHas w B g L st) (hL : L ≤ L') : PenHas w B g L' st := by
  obtain ⟨bs, bad, h1, h2, h3⟩ := h
  exact ⟨bs, bad, h1, by omega, h3⟩
theorem PenHas.le {w : World} {B g L : Nat} {st : Option (List Int)} (h : PenHas w B g L st) : B ≤ g := by
  obtain ⟨bs, bad, h1, h2, h3⟩ := h
  exact h1.1
theorem PenHas.lt {w : World} {B g L : Nat} {st : Option (List Int)} (h : PenHas w B g L st) : g < w.heap.size := by
  obtain ⟨bs, bad, ⟨_, A, c, hb, _⟩, h2, h3⟩ := h
  exact hb.lt
theorem PenPost.app {w w1 w' : World} {B g L : Nat} {st : Option (List Int)} {ta tb : List Tok} {e : Ending} (hk : Kept B g 5 w w1) (h : PenPost w1 B g (L + 6 * ta.length) (penStep st ta) tb e w') : PenPost w B g L st (ta ++ tb) e w' := by
  obtain ⟨h1, h2, h3⟩ := h
  exact ⟨h1, hk.trans h2, by rw [penStep_app, List.length_append]; exact h3.more (by omega)⟩
theorem PenPost.from {w w1 w' : World} {B g L : Nat} {st : Option (List Int)} {ts : List Tok} {e : Ending} (h : PenPost w1 B g L st ts e w') (hk : Kept B g 5 w w1) : PenPost w B g L st ts e w' := ⟨h.1, hk.trans h.2.1, h.2.2⟩

/-- What more bytes do to a pen. -/
theorem pen_grown {w0 w1 w2 : World} {B g : Nat} {bs cs : List Int} {bad : Bool} {A : Option Addr} {c n : Nat} {v : Value} (hg : B ≤ g) (hk : Kept B g 5 w0 w1) (hb : Blk w1 g 85 #[.slice A n c, .bool bad]) (hn : bs.length = n)
    (ho : w1.ownsRow B 5 1 (.slice A n c) n (u8s bs)) (ho2 : w2.ownsRow B 5 1 v (n + cs.length) (u8s bs ++ u8s cs)) (hgr : w1.grownBy w2 (Value.slice A n c).ownBlock) :
    Pen (w2.setCell ⟨g, 0, none⟩ v) B g (bs ++ cs) bad ∧ Kept B g 5 w0 (w2.setCell ⟨g, 0, none⟩ v) := by
  obtain ⟨A', c', rfl, _, _⟩ := own_slice ho2
  have hb2 := hb.grown hgr (fun he => own_blk_ne ho hb (by decide) he.symm)
  refine ⟨⟨hg, A', c', ?_, ?_⟩, (hk.grown ho (Nat.le_refl _) hgr).set_ _ _⟩
  · rw [List.length_append, hn]; exact hb2.set_ 0 _
  · rw [List.length_append, hn, u8s_app]
    exact own_far ho2 (fun he => own_blk_ne ho2 hb2 (by decide) he) _

set_option maxHeartbeats 1000000 in
set_option maxRecDepth 100000 in
theorem pen_number_ok (m : Nat) (hm : m < 1099511627776) (B g : Nat) (bs : List Int) (bad : Bool) (w : World) (hw : Pen w B g bs bad) (hsz : bs.length + 6 ≤ 70368744177664) (hB : B ≤ w.heap.size) :
    Calls Tryz.prog 38 #[.pointer (some ⟨g, 0, none⟩), .int .i64 m] w fun e w' => e = .returned (.tuple #[]) ∧ Kept B g 5 w w' ∧ Pen w' B g (bs ++ enc m) bad := by
  obtain ⟨i0, hi, hz0, hz1, hz2⟩ := info_parts Tryz.info5
  obtain ⟨hgB, A, c, hblk, hown⟩ := hw
  obtain ⟨n, hn⟩ : ∃ n, bs.length = n := ⟨_, rfl⟩
  rw [hn] at hblk hown hsz
  have HN := Lib.hid hn
  have HBl := Lib.hid hblk
  have HOw := Lib.hid hown
  clear hn hblk hown
  have hel := enc_len 5 m (by omega)
  go_enter Tryz.func38, Tryz.ntmps38
  go_wp2_with fail
  refine (refnumber_row m hm _).mono ?_
  rintro e w1 ⟨g1, c1, rfl, ho1, hb1⟩
  have HO := Lib.hid (Has.own ho1)
  have hblk1 := HBl.out.below hb1 HBl.out.lt
  have hown1 := below_own HOw.out hb1 (Nat.le_refl _)
  have hkp1 := Kept.of_below hb1 rfl B g 5
  have hce0 : w1.cell? ⟨g, 0, none⟩ = some (.slice A n c) := hblk1.cell 0
  have hce1 : w1.cell? ⟨g, 1, none⟩ = some (.bool bad) := hblk1.cell 1
  have hfr0 := hblk1.frozen 0
  have hfr1 := hblk1.frozen 1
  have hg1 : g1 ≠ g := by
    have h1 := (ho1.lt g1 rfl).1
    have h2 := HBl.out.lt
    omega
  clear ho1
  have HB2 := Lib.hid (show Blk (w1.setCell ⟨g, 1, none⟩ (.bool bad)) g 85 #[.slice A n c, .bool bad] from hblk1.set_ 1 (.bool bad))
  have HO2 := Lib.hid (own_far hown1 (p := ⟨g, 1, none⟩) (fun he => own_blk_ne hown1 hblk1 (by decide) he) (.bool bad))
  have HK2 := Lib.hid (hkp1.set_ 1 (.bool bad))
  have HOs := Lib.hid (HO.out.set_far (p := ⟨g, 1, none⟩) (fun ad he => by cases he; exact hg1) (.bool bad))
  have hbs := hb1.size
  have HF := Lib.hid (fun i => HB2.out.frozen i)
  clear hblk1 hown1 hkp1 hg1
  cases bad
  all_goals
    go_wp2_with (at_builtin; refine wpList_app rfl (.tmp 26) (.tmp 27) 56 rfl B 5 i0 (.int .u8 0) 1 Tryz.underlying56 hi hz0 hz1 hz2 rfl _ _ _ rfl HO2.out _ (some ⟨g1, 0, none⟩) (enc m).length c1 (u8s (enc m)) rfl (u8s_len _) HOs.out (fun h => by cases h) (u8s_one _) (by unfold maxLen; omega) (by omega) (by simp; omega) ?_)
    intro v2 w2 ho2 hg2 hb2
    have HP := Lib.hid (pen_grown hgB HK2.out HB2.out HN.out HO2.out ho2 hg2)
    have hblk2 := HB2.out.grown hg2 (fun he => own_blk_ne HO2.out HB2.out (by decide) he.symm)
    have hce2 : w2.cell? ⟨g, 0, none⟩ = some (.slice A n c) := hblk2.cell 0
    have hfr2 := hblk2.frozen 0
    obtain ⟨A1, d1, rfl, _, _⟩ := own_slice ho2
    clear hce0 hce1 hfr0 hfr1 ho2 hg2 hb2 hblk2
    go_wp2
    go_end0
    exact ⟨rfl, HP.out.2, HP.out.1⟩

set_option maxHeartbeats 1000000 in
set_option maxRecDepth 100000 in
theorem pen_number_no (z : Int) (hz : z < 0 ∨ 1099511627776 ≤ z) (B g : Nat) (bs : List Int) (bad : Bool) (w : World) (hw : Pen w B g bs bad) (hsz : bs.length + 6 ≤ 70368744177664) (hB : B ≤ w.heap.size) :
    Calls Tryz.prog 38 #[.pointer (some ⟨g, 0, none⟩), .int .i64 z] w fun e w' => e = .returned (.tuple #[]) ∧ Kept B g 5 w w' ∧ Pen w' B g bs true := by
  obtain ⟨i0, hi, hz0, hz1, hz2⟩ := info_parts Tryz.info5
  obtain ⟨hgB, A, c, hblk, hown⟩ := hw
  obtain ⟨n, hn⟩ : ∃ n, bs.length = n := ⟨_, rfl⟩
  rw [hn] at hblk hown hsz
  have HN := Lib.hid hn
  have HZ := Lib.hid hz
  have hce0 : w.cell? ⟨g, 0, none⟩ = some (.slice A n c) := hblk.cell 0
  have hce1 : w.cell? ⟨g, 1, none⟩ = some (.bool bad) := hblk.cell 1
  have hfr0 := hblk.frozen 0
  have hfr1 := hblk.frozen 1
  have HB2 := Lib.hid (show Blk (w.setCell ⟨g, 1, none⟩ (.bool true)) g 85 #[.slice A n c, .bool true] from hblk.set_ 1 (.bool true))
  have HO2 := Lib.hid (own_far hown (p := ⟨g, 1, none⟩) (fun he => own_blk_ne hown hblk (by decide) he) (.bool true))
  have HK2 := Lib.hid ((Kept.refl B g 5 w).set_ 1 (.bool true))
  clear hn hblk hown hz
  go_enter Tryz.func38, Tryz.ntmps38
  go_wp2_with fail
  refine (refnumber_none z HZ.out _).mono ?_
  rintro e w1 ⟨rfl, rfl⟩
  cases bad
  all_goals
    go_wp2_with (at_builtin; refine wpList_app rfl (.tmp 26) (.tmp 27) 56 rfl B 5 i0 (.int .u8 0) 1 Tryz.underlying56 hi hz0 hz1 hz2 rfl _ _ _ rfl HO2.out 0 none 0 0 (u8s []) rfl rfl (Has.nil _ _ _) (fun _ => rfl) (u8s_one _) (by unfold maxLen; omega) (by omega) (by simp; omega) ?_)
    intro v2 w2 ho2 hg2 hb2
    have HP := Lib.hid (pen_grown hgB HK2.out HB2.out HN.out HO2.out ho2 hg2)
    have hblk2 := HB2.out.grown hg2 (fun he => own_blk_ne HO2.out HB2.out (by decide) he.symm)
    have hce2 : w2.cell? ⟨g, 0, none⟩ = some (.slice A n c) := hblk2.cell 0
    have hfr2 := hblk2.frozen 0
    obtain ⟨A1, d1, rfl, _, _⟩ := own_slice ho2
    clear hce0 hce1 hfr0 hfr1 ho2 hg2 hb2 hblk2
    go_wp2
    go_end0
    exact ⟨rfl, HP.out.2, by simpa using HP.out.1⟩
theorem pen_number (t : Tok) (z : Int) (ht : ∀ m : Nat, t.code = some m → z = m) (hn : t.code = none → z < 0 ∨ 1099511627776 ≤ z) (B g L : Nat) (st : Option (List Int)) (w : World) (hw : PenHas w B g L st) (hsz : L + 6 ≤ 70368744177664) (hB : B ≤ w.heap.size) :
    Calls Tryz.prog 38 #[.pointer (some ⟨g, 0, none⟩), .int .i64 z] w (PenPost w B g L st [t]) := by
  obtain ⟨bs, bad, hp, hl, hs⟩ := hw
  cases hc : t.code with
  | some m =>
    have hz := ht m hc
    subst hz
    have hm := code_small hc
    refine (pen_number_ok m hm B g bs bad w hp (by omega) hB).mono ?_
    rintro e w' ⟨h1, h2, h3⟩
    refine ⟨h1, h2, bs ++ enc m, bad, h3, by have := enc_len 5 m (by omega); simp; omega, ?_⟩
    rcases hs with ⟨rfl, rfl⟩ | ⟨rfl, rfl⟩
    · exact Or.inl ⟨by simp [penStep, codes_one hc, flat], rfl⟩
    · exact Or.inr ⟨rfl, rfl⟩
  | none =>
    refine (pen_number_no z (hn hc) B g bs bad w hp (by omega) hB).mono ?_
    rintro e w' ⟨h1, h2, h3⟩
    refine ⟨h1, h2, bs, true, h3, by simp; omega, Or.inr ⟨?_, rfl⟩⟩
    cases st with
    | none => rfl
    | some b => simp [penStep, codes_none_head hc]
theorem pen_num (z : Int) (B g L : Nat) (st : Option (List Int)) (w : World) (hw : PenHas w B g L st) (hsz : L + 6 ≤ 70368744177664) (hB : B ≤ w.heap.size) :
    Calls Tryz.prog 38 #[.pointer (some ⟨g, 0, none⟩), .int .i64 z] w (PenPost w B g L st [.num z]) :=
  pen_number (.num z) z (fun m h => (code_num.1 h).1) (fun h => by
    simp only [Tok.code] at h
    split at h
    · cases h
    · rename_i h1
      omega) B g L st w hw hsz hB
theorem Pen.bad_ {w : World} {B g : Nat} {bs : List Int} {bad : Bool} (h : Pen w B g bs bad) (b : Bool) : Pen (w.setCell ⟨g, 1, none⟩ (.bool b)) B g bs b := by
  obtain ⟨hg, A, c, hb, ho⟩ := h
  exact ⟨hg, A, c, hb.set_ 1 (.bool b), own_far ho (fun he => own_blk_ne ho hb (by decide) he) _⟩
theorem Pen.cells {w : World} {B g : Nat} {bs : List Int} {bad : Bool} (h : Pen w B g bs bad) : w.cell? ⟨g, 1, none⟩ = some (.bool bad) ∧ w.frozen? ⟨g, 1, none⟩ = false := by
  obtain ⟨hg, A, c, hb, ho⟩ := h
  exact ⟨hb.cell 1, hb.frozen 1⟩
theorem sgn_num {z : Int} (h : -549755813888 ≤ z ∧ z < 549755813888) : (∀ m : Nat, (Tok.sgn z).code = some m → zigS z = m) ∧ ((Tok.sgn z).code = none → zigS z < 0 ∨ 1099511627776 ≤ zigS z) := by
  have h1 := zigS_in h.1 h.2
  constructor
  · intro m hm
    rw [code_sgn_in h] at hm
    have h2 := Option.some.inj hm
    have h3 : ((zigS z).toNat : Int) = zigS z := Int.toNat_of_nonneg h1.1
    rw [← h3, h2]
  · intro hm
    rw [code_sgn_in h] at hm
    cases hm

set_option maxHeartbeats 1000000 in
theorem pen_signed (z : Int) (B g L : Nat) (st : Option (List Int)) (w : World) (hw : PenHas w B g L st) (hsz : L + 6 ≤ 70368744177664) (hB : B ≤ w.heap.size) :
    Calls Tryz.prog 39 #[.pointer (some ⟨g, 0, none⟩), .int .i64 z] w (PenPost w B g L st [.sgn z]) := by
  obtain ⟨bs, bad, hp, hl, hs⟩ := hw
  obtain ⟨hc1, hf1⟩ := hp.cells
  have hgl : g < w.heap.size := PenHas.lt ⟨bs, bad, hp, hl, hs⟩
  by_cases hz : -549755813888 ≤ z ∧ z < 549755813888
  · have HN := Lib.hid (sgn_num hz)
    have HP := Lib.hid (show PenHas (w.setCell ⟨g, 1, none⟩ (.bool bad)) B g L st from ⟨bs, bad, hp.bad_ bad, hl, hs⟩)
    obtain ⟨z1, z2⟩ := hz
    have d1 : decide (z < -549755813888) = false := by simpa using z1
    have d2 : decide (549755813888 ≤ z) = false := by simpa using z2
    clear hp hs
    cases bad
    all_goals
      go_enter Tryz.func39, Tryz.ntmps39
      go_wp2_with fail
      refine (refzig_any z _).mono ?_
      rintro e w1 ⟨rfl, rfl⟩
      go_wp2_with fail
      refine (pen_number (.sgn z) (zigS z) HN.out.1 HN.out.2 B g L st _ HP.out hsz (by simp; omega)).mono ?_
      rintro e w1 ⟨rfl, hk, hh⟩
      have HR := Lib.hid (PenPost.from ⟨rfl, hk, hh⟩ ((Kept.refl B g 5 w).set_ 1 _))
      clear hk hh
      go_wp2_with fail
      go_end0
      exact HR.out
  · have HP := Lib.hid (show PenHas (w.setCell ⟨g, 1, none⟩ (.bool true)) B g L none from ⟨bs, true, hp.bad_ true, hl, Or.inr ⟨rfl, rfl⟩⟩)
    have HE := Lib.hid (show penStep st [.sgn z] = none by
      cases st with
      | none => rfl
      | some b => simp only [penStep, codes_none_head (code_sgn_out hz)])
    clear hp hs
    by_cases z1 : z < -549755813888
    · clear hz
      have d1 : decide (z < -549755813888) = true := by simpa using z1
      cases bad
      all_goals
        go_enter Tryz.func39, Tryz.ntmps39
        go_wp2_with fail
        refine (refzig_any z _).mono ?_
        rintro e w1 ⟨rfl, rfl⟩
        go_wp2_with fail
        refine (pen_num (zigS z) B g L none _ HP.out hsz (by simp; omega)).mono ?_
        rintro e w1 ⟨rfl, hk, hh⟩
        have HR : Hid (PenPost w B g L st [.sgn z] (.returned (.tuple #[])) w1) := ⟨rfl, ((Kept.refl B g 5 w).set_ 1 _).trans hk, by rw [HE.out]; exact hh⟩
        clear hk hh
        go_wp2_with fail
        go_end0
        exact HR.out
    · have z2 : 549755813888 ≤ z := by omega
      have d2 : decide (549755813888 ≤ z) = true := by simpa using z2
      clear hz
      cases bad
      all_goals
        go_enter Tryz.func39, Tryz.ntmps39
        go_wp2_with fail
        refine (refzig_any z _).mono ?_
        rintro e w1 ⟨rfl, rfl⟩
        go_wp2_with fail
        refine (pen_num (zigS z) B g L none _ HP.out hsz (by simp; omega)).mono ?_
        rintro e w1 ⟨rfl, hk, hh⟩
        have HR : Hid (PenPost w B g L st [.sgn z] (.returned (.tuple #[])) w1) := ⟨rfl, ((Kept.refl B g 5 w).set_ 1 _).trans hk, by rw [HE.out]; exact hh⟩
        clear hk hh
        go_wp2_with fail
        go_end0
        exact HR.out

set_option maxHeartbeats 1000000 in
theorem pen_list (n : Nat) (B g L : Nat) (st : Option (List Int)) (w : World) (hw : PenHas w B g L st) (hsz : L + 6 ≤ 70368744177664) (hB : B ≤ w.heap.size) :
    Calls Tryz.prog 66 #[.pointer (some ⟨g, 0, none⟩), .int .i64 n] w (PenPost w B g L st [.len n]) := by
  obtain ⟨bs, bad, hp, hl, hs⟩ := hw
  obtain ⟨hc1, hf1⟩ := hp.cells
  have hgl : g < w.heap.size := PenHas.lt ⟨bs, bad, hp, hl, hs⟩
  by_cases hz : n ≤ 256
  · have HC := Lib.hid (show (Tok.len n).code = some n from code_len.2 ⟨rfl, hz⟩)
    have HP := Lib.hid (show PenHas (w.setCell ⟨g, 1, none⟩ (.bool bad)) B g L st from ⟨bs, bad, hp.bad_ bad, hl, hs⟩)
    have d1 : decide ((256 : Int) < (n : Int)) = false := by simp; omega
    clear hp hs
    cases bad
    all_goals
      go_enter Tryz.func66, Tryz.ntmps66
      go_wp2_with fail
      refine (pen_number (.len n) n (fun m h => by rw [HC.out] at h; cases h; rfl) (fun h => by rw [HC.out] at h; cases h) B g L st _ HP.out hsz (by simp; omega)).mono ?_
      rintro e w1 ⟨rfl, hk, hh⟩
      have HR := Lib.hid (PenPost.from ⟨rfl, hk, hh⟩ ((Kept.refl B g 5 w).set_ 1 _))
      clear hk hh
      go_wp2_with fail
      go_end0
      exact HR.out
  · have HP := Lib.hid (show PenHas (w.setCell ⟨g, 1, none⟩ (.bool true)) B g L none from ⟨bs, true, hp.bad_ true, hl, Or.inr ⟨rfl, rfl⟩⟩)
    have HE := Lib.hid (show penStep st [.len n] = none by
      cases st with
      | none => rfl
      | some b => simp only [penStep, codes_none_head (show (Tok.len n).code = none from if_neg hz)])
    have hz2 : 256 < n := by omega
    have d1 : decide ((256 : Int) < (n : Int)) = true := by simp; omega
    clear hp hs hz
    cases bad
    all_goals
      go_enter Tryz.func66, Tryz.ntmps66
      go_wp2_with fail
      refine (pen_num n B g L none _ HP.out hsz (by simp; omega)).mono ?_
      rintro e w1 ⟨rfl, hk, hh⟩
      have HR : Hid (PenPost w B g L st [.len n] (.returned (.tuple #[])) w1) := ⟨rfl, ((Kept.refl B g 5 w).set_ 1 _).trans hk, by rw [HE.out]; exact hh⟩
      clear hk hh
      go_wp2_with fail
      go_end0
      exact HR.out
end Go.Proofs.YtiffmjfbdidgkaaGreat
