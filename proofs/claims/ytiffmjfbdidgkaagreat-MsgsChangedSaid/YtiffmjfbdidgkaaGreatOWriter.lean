/- The contracts of the writer of package pack: fields one behind the other, up to the first that cannot be written. -/
import Derived.Test.YtiffmjfbdidgkaaGreatOS0
import Derived.Test.YtiffmjfbdidgkaaGreatOForms
namespace Go.Proofs.YtiffmjfbdidgkaaGreat
open Go.RowKit

/-- Block g is a writer that has gathered these bytes, in a row of the call's own. -/
def Wr (w : World) (B g : Nat) (bs : List Int) : Prop :=
  B ≤ g ∧ ∃ A c, Blk w g 125 #[.slice A bs.length c] ∧ w.ownsRow B 5 1 (.slice A bs.length c) bs.length (u8s bs)
/-- What a call of the writer's does and answers. -/
def WrPost (w : World) (B g : Nat) (bs : List Int) (ts : List Tok) (e : Ending) (w' : World) : Prop :=
  Kept B g 5 w w' ∧ ((∃ ns, codes ts = some ns ∧ e = .returned (.bool true) ∧ Wr w' B g (bs ++ flat ns)) ∨ (codes ts = none ∧ e = .returned (.bool false)))
theorem WrPost.good {w w' : World} {B g : Nat} {bs : List Int} {ts : List Tok} {ns : List Nat} (h : codes ts = some ns) (hw : Wr w' B g (bs ++ flat ns)) (hk : Kept B g 5 w w') : WrPost w B g bs ts (.returned (.bool true)) w' :=
  ⟨hk, Or.inl ⟨ns, h, rfl, hw⟩⟩
theorem WrPost.bad {w w' : World} {B g : Nat} {bs : List Int} {ts : List Tok} (h : codes ts = none) (hk : Kept B g 5 w w') : WrPost w B g bs ts (.returned (.bool false)) w' :=
  ⟨hk, Or.inr ⟨h, rfl⟩⟩

/-- What holds at the head of the loop of numbers (of signed): these have been written. -/
def WrRel (w : World) (B g : Nat) (bs : List Int) (ts : List Tok) (x : Value) (wr : World) : Prop :=
  ∃ (k : Nat) (ns : List Nat), x = .int .i64 k ∧ k ≤ ts.length ∧ codes (ts.take k) = some ns ∧ Wr wr B g (bs ++ flat ns) ∧ Kept B g 5 w wr
theorem codes_snoc {ts : List Tok} {k : Nat} {t : Tok} {r : List Tok} {ns : List Nat} {n : Nat} (hd : ts.drop k = t :: r) (h : codes (ts.take k) = some ns) (ht : t.code = some n) : codes (ts.take (k + 1)) = some (ns ++ [n]) := by
  rw [(take_more hd).1]
  exact codes_app_some h (codes_one ht)
theorem codes_stop {ts : List Tok} {k : Nat} {t : Tok} {r : List Tok} (hd : ts.drop k = t :: r) (ht : t.code = none) : codes ts = none := by
  rw [← List.take_append_drop k ts, hd]
  exact codes_app_none2 (codes_none_head ht)

theorem flat_take_len {ts : List Tok} {k : Nat} {ns : List Nat} (h : codes (ts.take k) = some ns) : (flat ns).length ≤ 6 * k := by
  have h1 := flat_len ns (codes_small h)
  rw [codes_len h] at h1
  have h2 : (ts.take k).length ≤ k := List.length_take_le _ _
  omega
theorem drop_map {α β : Type} (f : α → β) {l : List α} {k : Nat} (hk : k < l.length) : (l.map f).drop k = f l[k] :: (l.map f).drop (k + 1) := by
  rw [List.drop_eq_getElem_cons (by simpa using hk)]
  simp

/-- What one more number does. -/
theorem wr_step {w w2 : World} {B g : Nat} {bs : List Int} {ts : List Tok} {k : Nat} {t : Tok} {r : List Tok} {ns : List Nat} {m n : Nat} {A : Option Addr} {cc : Nat} {v1 : Value} (hgB : B ≤ g)
    (hc : codes (ts.take k) = some ns) (hd : ts.drop k = t :: r) (ht : t.code = some m) (hn : (bs ++ flat ns).length = n) (hb : Blk w2 g 125 #[.slice A n cc])
    (ho : w2.ownsRow B 5 1 v1 (n + (enc m).length) (u8s (bs ++ flat ns) ++ u8s (enc m))) (hk : Kept B g 5 w w2) :
    codes (ts.take (k + 1)) = some (ns ++ [m]) ∧ Wr (w2.setCell ⟨g, 0, none⟩ v1) B g (bs ++ flat (ns ++ [m])) ∧ Kept B g 5 w (w2.setCell ⟨g, 0, none⟩ v1) := by
  obtain ⟨A', c', rfl, _, _⟩ := own_slice ho
  have e : bs ++ flat (ns ++ [m]) = (bs ++ flat ns) ++ enc m := by simp [flat]
  have hl : (bs ++ flat (ns ++ [m])).length = n + (enc m).length := by rw [e, List.length_append, hn]
  refine ⟨codes_snoc hd hc ht, ⟨hgB, A', c', ?_, ?_⟩, hk.set_ _ _⟩
  · rw [hl]; exact hb.set_ 0 _
  · rw [hl, e, u8s_app]
    exact own_far ho (fun he => own_blk_ne ho hb (by decide) he) _
set_option maxHeartbeats 1000000 in
set_option maxRecDepth 100000 in
theorem wr_numbers (l : List Int) (B g h c : Nat) (bs : List Int) (w : World) (hw : Wr w B g bs) (hh : Blk w h 3 (l.map (Value.int .i64)).toArray) (hsz : bs.length + 6 * l.length ≤ 70368744177664) (hB : B ≤ w.heap.size) :
    Calls Tryz.prog 90 #[.pointer (some ⟨g, 0, none⟩), .slice (some ⟨h, 0, none⟩) l.length c] w (WrPost w B g bs (l.map .num)) := by
  obtain ⟨i0, hi, hz0, hz1, hz2⟩ := info_parts Tryz.info5
  have hhg : h ≠ g := by
    obtain ⟨_, _, _, hb, _⟩ := hw
    exact Blk.ne_ hh hb (by decide)
  have HW := Lib.hid hw
  have HH := Lib.hid hh
  clear hw hh
  go_enter Tryz.func90, Tryz.ntmps90
  go_wp2
  go_loopw [11] (fun x wr => WrRel w B g bs (l.map .num) x wr) (fun x _ => l.length - (intOf x).toNat)
  case atStart => exact ⟨0, [], rfl, Nat.zero_le _, rfl, by simpa [flat] using HW.out, Kept.refl _ _ _ _⟩
  case round =>
    obtain ⟨k, ns, rfl, hk, hc, hw, hkp⟩ := hrel
    rw [List.length_map] at hk
    have hfl := flat_take_len hc
    by_cases hlt : k < l.length
    · obtain ⟨hgB, A, cc, hblk, hown⟩ := hw
      obtain ⟨n, hn⟩ : ∃ n, (bs ++ flat ns).length = n := ⟨_, rfl⟩
      have hn1 : n ≤ bs.length + 6 * k := by rw [← hn, List.length_append]; omega
      rw [hn] at hblk hown
      have HN := Lib.hid hn
      clear hn
      have hcell := (hkp.blk HH.out (by decide) hhg).cell k
      rw [show (l.map (Value.int .i64)).toArray[k]? = some (.int .i64 l[k]) by simp [hlt]] at hcell
      have hdr := drop_map Tok.num hlt
      obtain ⟨z, hz⟩ : ∃ z, l[k] = z := ⟨_, rfl⟩
      rw [hz] at hcell hdr
      clear hz
      have HC := Lib.hid hc
      have HD := Lib.hid hdr
      have hbs := hkp.size
      clear hc hdr
      by_cases hz : 0 ≤ z ∧ z < 1099511627776
      · obtain ⟨m, rfl⟩ := Int.eq_ofNat_of_zero_le hz.1
        have hm : m < 1099511627776 := by omega
        have hel := enc_len 5 m (by omega)
        clear hz
        go_wp2_with fail
        refine (number_row m hm _).mono ?_
        rintro e w1 ⟨g1, c1, rfl, ho1, hb1⟩
        have hblk1 := hblk.below hb1 hblk.lt
        have hown1 := below_own hown hb1 (Nat.le_refl _)
        have hkp1 := hkp.trans (Kept.of_below hb1 rfl _ _ _)
        have HO := Lib.hid (Has.own ho1)
        have hce := hblk1.cell 0
        rw [show (#[Value.slice A n cc])[0]? = some (Value.slice A n cc) from rfl] at hce
        have hfr := hblk1.frozen 0
        clear ho1 hown hblk hcell
        go_wp2_with (at_builtin; refine wpList_app rfl (.tmp 26) (.tmp 27) 56 rfl B 5 i0 (.int .u8 0) 1 Tryz.underlying56 hi hz0 hz1 hz2 rfl _ _ _ rfl hown1 _ (some ⟨g1, 0, none⟩) (enc m).length c1 (u8s (enc m)) rfl (u8s_len _) HO.out (fun h => by cases h) (u8s_one _) (by unfold maxLen; omega) (by omega) (by have := hkp1.size; omega) ?_)
        intro v1 w2 ho2 hg2 hb2
        have hblk2 := hblk1.grown hg2 (fun he => own_blk_ne hown1 hblk1 (by decide) he.symm)
        have hkp2 := hkp1.grown hown1 (Nat.le_refl _) hg2
        have hce2 := hblk2.cell 0
        rw [show (#[Value.slice A n cc])[0]? = some (Value.slice A n cc) from rfl] at hce2
        have hfr2 := hblk2.frozen 0
        have HP := Lib.hid (wr_step hgB HC.out HD.out (code_num.2 ⟨rfl, hm⟩) HN.out hblk2 ho2 hkp2)
        obtain ⟨A1, d1, rfl, _, _⟩ := own_slice ho2
        clear hce hfr hblk1 hown1 hg2 hblk2 ho2
        go_wp2
        go_roundw
        case rel => exact ⟨k + 1, ns ++ [m], by go_num, by simp; omega, HP.out.1, HP.out.2.1, HP.out.2.2⟩
        case measure => simp [intOf]; omega
      · have hno : (Tok.num z).code = none := if_neg hz
        have HB := Lib.hid (codes_stop HD.out hno)
        have HZ := Lib.hid (show z < 0 ∨ 1099511627776 ≤ z by omega)
        have HK := Lib.hid hkp
        clear hz hno hblk hown hkp
        go_wp2_with fail
        refine (number_none z HZ.out _).mono ?_
        rintro e w1 ⟨rfl, rfl⟩
        go_wp2_with fail
        go_ret
        exact WrPost.bad HB.out HK.out
    · have hke : k = l.length := by omega
      rw [List.take_of_length_le (by simp; omega)] at hc
      have HK := Lib.hid hkp
      have HC := Lib.hid hc
      have HV := Lib.hid hw
      clear hkp hc hw hke
      go_wp2_with fail
      go_ret
      exact WrPost.good HC.out HV.out HK.out
set_option maxHeartbeats 1000000 in
set_option maxRecDepth 100000 in
theorem wr_signed (l : List Int) (B g h c : Nat) (bs : List Int) (w : World) (hw : Wr w B g bs) (hh : Blk w h 3 (l.map (Value.int .i64)).toArray) (hsz : bs.length + 6 * l.length ≤ 70368744177664) (hB : B ≤ w.heap.size) :
    Calls Tryz.prog 98 #[.pointer (some ⟨g, 0, none⟩), .slice (some ⟨h, 0, none⟩) l.length c] w (WrPost w B g bs (l.map .sgn)) := by
  obtain ⟨i0, hi, hz0, hy1, hy2⟩ := info_parts Tryz.info5
  have hhg : h ≠ g := by
    obtain ⟨_, _, _, hb, _⟩ := hw
    exact Blk.ne_ hh hb (by decide)
  have HW := Lib.hid hw
  have HH := Lib.hid hh
  clear hw hh
  go_enter Tryz.func98, Tryz.ntmps98
  go_wp2
  go_loopw [11] (fun x wr => WrRel w B g bs (l.map .sgn) x wr) (fun x _ => l.length - (intOf x).toNat)
  case atStart => exact ⟨0, [], rfl, Nat.zero_le _, rfl, by simpa [flat] using HW.out, Kept.refl _ _ _ _⟩
  case round =>
    obtain ⟨k, ns, rfl, hk, hc, hw, hkp⟩ := hrel
    rw [List.length_map] at hk
    have hfl := flat_take_len hc
    by_cases hlt : k < l.length
    · obtain ⟨hgB, A, cc, hblk, hown⟩ := hw
      obtain ⟨n, hn⟩ : ∃ n, (bs ++ flat ns).length = n := ⟨_, rfl⟩
      have hn1 : n ≤ bs.length + 6 * k := by rw [← hn, List.length_append]; omega
      rw [hn] at hblk hown
      have HN := Lib.hid hn
      clear hn
      have hcell := (hkp.blk HH.out (by decide) hhg).cell k
      rw [show (l.map (Value.int .i64)).toArray[k]? = some (.int .i64 l[k]) by simp [hlt]] at hcell
      have hdr := drop_map Tok.sgn hlt
      obtain ⟨z, hz⟩ : ∃ z, l[k] = z := ⟨_, rfl⟩
      rw [hz] at hcell hdr
      clear hz
      have HC := Lib.hid hc
      have HD := Lib.hid hdr
      have hbs := hkp.size
      clear hc hdr
      by_cases hz : -549755813888 ≤ z ∧ z < 549755813888
      · have HM := Lib.hid (code_sgn_in hz)
        obtain ⟨hz1, hz2⟩ := hz
        have HZ := Lib.hid (fun w => signum_row z hz1 hz2 w)
        obtain ⟨m, hm⟩ : ∃ m, (zigS z).toNat = m := ⟨_, rfl⟩
        rw [hm] at HM HZ
        clear hm
        have hm : m < 1099511627776 := code_small HM.out
        have hel := enc_len 5 m (by omega)
        go_wp2_with fail
        refine (HZ.out _).mono ?_
        rintro e w1 ⟨g1, c1, rfl, ho1, hb1⟩
        have hblk1 := hblk.below hb1 hblk.lt
        have hown1 := below_own hown hb1 (Nat.le_refl _)
        have hkp1 := hkp.trans (Kept.of_below hb1 rfl _ _ _)
        have HO := Lib.hid (Has.own ho1)
        have hce := hblk1.cell 0
        rw [show (#[Value.slice A n cc])[0]? = some (Value.slice A n cc) from rfl] at hce
        have hfr := hblk1.frozen 0
        clear ho1 hown hblk hcell
        go_wp2_with (at_builtin; refine wpList_app rfl (.tmp 26) (.tmp 27) 56 rfl B 5 i0 (.int .u8 0) 1 Tryz.underlying56 hi hz0 hy1 hy2 rfl _ _ _ rfl hown1 _ (some ⟨g1, 0, none⟩) (enc m).length c1 (u8s (enc m)) rfl (u8s_len _) HO.out (fun h => by cases h) (u8s_one _) (by unfold maxLen; omega) (by omega) (by have := hkp1.size; omega) ?_)
        intro v1 w2 ho2 hg2 hb2
        have hblk2 := hblk1.grown hg2 (fun he => own_blk_ne hown1 hblk1 (by decide) he.symm)
        have hkp2 := hkp1.grown hown1 (Nat.le_refl _) hg2
        have hce2 := hblk2.cell 0
        rw [show (#[Value.slice A n cc])[0]? = some (Value.slice A n cc) from rfl] at hce2
        have hfr2 := hblk2.frozen 0
        have HP := Lib.hid (wr_step hgB HC.out HD.out HM.out HN.out hblk2 ho2 hkp2)
        obtain ⟨A1, d1, rfl, _, _⟩ := own_slice ho2
        clear hce hfr hblk1 hown1 hg2 hblk2 ho2
        go_wp2
        go_roundw
        case rel => exact ⟨k + 1, ns ++ [m], by go_num, by simp; omega, HP.out.1, HP.out.2.1, HP.out.2.2⟩
        case measure => simp [intOf]; omega
      · have hno : (Tok.sgn z).code = none := code_sgn_out hz
        have HB := Lib.hid (codes_stop HD.out hno)
        have HZ := Lib.hid (show z < -549755813888 ∨ 549755813888 ≤ z by omega)
        have HK := Lib.hid hkp
        clear hz hno hblk hown hkp
        go_wp2_with fail
        refine (signum_none z HZ.out _).mono ?_
        rintro e w1 ⟨rfl, rfl⟩
        go_wp2_with fail
        go_ret
        exact WrPost.bad HB.out HK.out
    · have hke : k = l.length := by omega
      rw [List.take_of_length_le (by simp; omega)] at hc
      have HK := Lib.hid hkp
      have HC := Lib.hid hc
      have HV := Lib.hid hw
      clear hkp hc hw hke
      go_wp2_with fail
      go_ret
      exact WrPost.good HC.out HV.out HK.out
theorem Wr.alloc {w : World} {B g : Nat} {bs : List Int} (h : Wr w B g bs) (o : Obj) : Wr (w.alloc o) B g bs := by
  obtain ⟨hg, A, c, hb, ho⟩ := h
  exact ⟨hg, A, c, hb.alloc o, ho.alloc o⟩
theorem Wr.kept {w w' : World} {B g : Nat} {bs : List Int} (h : Wr w B g bs) (hb : Below w.heap.size w w') : Wr w' B g bs := by
  obtain ⟨hg, A, c, h1, ho⟩ := h
  exact ⟨hg, A, c, h1.below hb h1.lt, below_own ho hb (Nat.le_refl _)⟩
theorem Wr.lt {w : World} {B g : Nat} {bs : List Int} (h : Wr w B g bs) : g < w.heap.size := by
  obtain ⟨hg, A, c, h1, ho⟩ := h
  exact h1.lt
theorem WrPost.from {w w1 w' : World} {B g : Nat} {bs : List Int} {ts : List Tok} {e : Ending} (h : WrPost w1 B g bs ts e w') (hk : Kept B g 5 w w1) : WrPost w B g bs ts e w' := ⟨hk.trans h.1, h.2⟩

theorem wr_numbers_is {l : List Int} {n B g h c : Nat} {bs : List Int} (hn : l.length = n) (hsz : bs.length + 6 * n ≤ 70368744177664) (w : World) (hw : Wr w B g bs) (hh : Blk w h 3 (l.map (Value.int .i64)).toArray) (hB : B ≤ w.heap.size) :
    Calls Tryz.prog 90 #[.pointer (some ⟨g, 0, none⟩), .slice (some ⟨h, 0, none⟩) n c] w (WrPost w B g bs (l.map .num)) := by
  subst hn
  exact wr_numbers l B g h c bs w hw hh hsz hB
theorem wr_signed_is {l : List Int} {n B g h c : Nat} {bs : List Int} (hn : l.length = n) (hsz : bs.length + 6 * n ≤ 70368744177664) (w : World) (hw : Wr w B g bs) (hh : Blk w h 3 (l.map (Value.int .i64)).toArray) (hB : B ≤ w.heap.size) :
    Calls Tryz.prog 98 #[.pointer (some ⟨g, 0, none⟩), .slice (some ⟨h, 0, none⟩) n c] w (WrPost w B g bs (l.map .sgn)) := by
  subst hn
  exact wr_signed l B g h c bs w hw hh hsz hB

set_option maxHeartbeats 400000 in
theorem wr_vote (v : Vt) (B g : Nat) (bs : List Int) (w : World) (hw : Wr w B g bs) (hsz : bs.length + 6 * v.toks.length ≤ 70368744177664) (hB : B ≤ w.heap.size) :
    Calls Tryz.prog 87 #[.pointer (some ⟨g, 0, none⟩), .agg #[.int .i64 v.nd, .int .i64 v.sg]] w (WrPost w B g bs v.toks) := by
  have HW := Lib.hid hw
  clear hw
  have hsz2 : bs.length + 6 * 2 ≤ 70368744177664 := hsz
  have HN := Lib.hid (show [v.nd, v.sg].length = 2 from rfl)
  have HBk := Lib.hid (Blk.new1 w (.cells #[.int .i64 v.nd, .int .i64 v.sg] 39) 3 #[.int .i64 v.nd, .int .i64 v.sg])
  go_enter Tryz.func87, Tryz.ntmps87
  go_wp2_with fail
  refine (wr_numbers_is (B := B) HN.out hsz2 _ ((HW.out.alloc _).alloc _) HBk.out (by simp; omega)).mono ?_
  rintro e w' ⟨hk, h⟩
  have HK := Lib.hid (((Kept.refl B g 5 w).alloc (.cells #[.int .i64 v.nd, .int .i64 v.sg] 39)).alloc (.cells #[.int .i64 v.nd, .int .i64 v.sg] 3) |>.trans hk)
  clear hk
  rcases h with ⟨ns, hc, rfl, hw'⟩ | ⟨hc, rfl⟩
  · have HC := Lib.hid hc
    have HV := Lib.hid hw'
    clear hc hw'
    go_wp2
    go_ret
    exact WrPost.good HC.out HV.out HK.out
  · have HC := Lib.hid hc
    clear hc
    go_wp2
    go_ret
    exact WrPost.bad HC.out HK.out
/-- One part of the fields behind another. -/
theorem WrPost.app {w w1 w' : World} {B g : Nat} {bs : List Int} {ta tb : List Tok} {na : List Nat} {e : Ending} (hk : Kept B g 5 w w1) (hc : codes ta = some na) (h : WrPost w1 B g (bs ++ flat na) tb e w') : WrPost w B g bs (ta ++ tb) e w' := by
  obtain ⟨hk2, h⟩ := h
  refine ⟨hk.trans hk2, ?_⟩
  rcases h with ⟨nb, h1, h2, h3⟩ | ⟨h1, h2⟩
  · exact Or.inl ⟨na ++ nb, codes_app_some hc h1, h2, by rw [flat_app, ← List.append_assoc]; exact h3⟩
  · exact Or.inr ⟨codes_app_none2 h1, h2⟩
theorem wr_len {bs : List Int} {ts : List Tok} {ns : List Nat} {n k : Nat} (hc : codes ts = some ns) (hs : bs.length + 6 * (ts.length + k) ≤ n) : (bs ++ flat ns).length + 6 * k ≤ n := by
  have h1 := flat_len ns (codes_small hc)
  rw [codes_len hc] at h1
  rw [List.length_append]
  omega

set_option maxHeartbeats 1000000 in
theorem wr_req (r : Rq) (B g : Nat) (bs : List Int) (w : World) (hw : Wr w B g bs) (hsz : bs.length + 6 * r.toks.length ≤ 70368744177664) (hB : B ≤ w.heap.size) :
    Calls Tryz.prog 85 #[.pointer (some ⟨g, 0, none⟩), .agg #[.int .i64 r.cl, .int .i64 r.tm, .int .i64 r.kd, .int .i64 r.ky, .int .i64 r.vl, .int .i64 r.sg]] w (WrPost w B g bs r.toks) := by
  have hgw := hw.lt
  have HW := Lib.hid hw
  clear hw
  have HS := Lib.hid (show bs.length + 6 * (3 + 3) ≤ 70368744177664 from hsz)
  have hs3 : bs.length + 6 * 3 ≤ 70368744177664 := by have := HS.out; omega
  clear hsz
  have HN := Lib.hid (show [r.cl, r.tm, r.kd].length = 3 from rfl)
  have HN2 := Lib.hid (show [r.ky, r.vl].length = 2 from rfl)
  have HN3 := Lib.hid (show [r.sg].length = 1 from rfl)
  have HBx := Lib.hid ((Blk.new w 106 #[.int .i64 r.cl, .int .i64 r.tm, .int .i64 r.kd, .int .i64 r.ky, .int .i64 r.vl, .int .i64 r.sg]).alloc (.cells #[.int .i64 r.cl, .int .i64 r.tm, .int .i64 r.kd] 3))
  have HBk := Lib.hid (Blk.new1 w (.cells #[.int .i64 r.cl, .int .i64 r.tm, .int .i64 r.kd, .int .i64 r.ky, .int .i64 r.vl, .int .i64 r.sg] 106) 3 #[.int .i64 r.cl, .int .i64 r.tm, .int .i64 r.kd])
  go_enter Tryz.func85, Tryz.ntmps85
  go_wp2_with fail
  refine (wr_numbers_is (B := B) HN.out hs3 _ ((HW.out.alloc _).alloc _) HBk.out (by simp; omega)).mono ?_
  rintro e w1 ⟨hk, h⟩
  have hsz1 := hk.size
  simp only [World.size_alloc] at hsz1
  have hx := hk.blk HBx.out (by decide) (by omega)
  have HK := Lib.hid (((Kept.refl B g 5 w).alloc (.cells #[.int .i64 r.cl, .int .i64 r.tm, .int .i64 r.kd, .int .i64 r.ky, .int .i64 r.vl, .int .i64 r.sg] 106)).alloc (.cells #[.int .i64 r.cl, .int .i64 r.tm, .int .i64 r.kd] 3) |>.trans hk)
  clear hk HBk
  rcases h with ⟨na, hc, rfl, hw'⟩ | ⟨hc, rfl⟩
  · have hc3 : w1.cell? ⟨w.heap.size, 3, none⟩ = some (.int .i64 r.ky) := hx.cell 3
    have hc4 : w1.cell? ⟨w.heap.size, 4, none⟩ = some (.int .i64 r.vl) := hx.cell 4
    have HX := Lib.hid (hx.alloc (.cells #[.int .i64 r.ky, .int .i64 r.vl] 3))
    have HBk2 := Lib.hid (Blk.new w1 3 #[.int .i64 r.ky, .int .i64 r.vl])
    have HC := Lib.hid hc
    have HV := Lib.hid hw'
    have hs2 : (bs ++ flat na).length + 6 * 2 ≤ 70368744177664 := by have := wr_len hc HS.out; omega
    clear hc hw' hx
    go_wp2_with fail
    refine (wr_signed_is (B := B) HN2.out hs2 _ (HV.out.alloc _) HBk2.out (by simp; omega)).mono ?_
    rintro e w2 ⟨hk, h⟩
    have hsz2 := hk.size
    simp only [World.size_alloc] at hsz2
    have hx := hk.blk HX.out (by decide) (by omega)
    have HK2 := Lib.hid (((Kept.refl B g 5 w1).alloc (.cells #[.int .i64 r.ky, .int .i64 r.vl] 3)) |>.trans hk)
    clear hk HBk2 hc3 hc4
    rcases h with ⟨nb, hc, rfl, hw'⟩ | ⟨hc, rfl⟩
    · have hc5 : w2.cell? ⟨w.heap.size, 5, none⟩ = some (.int .i64 r.sg) := hx.cell 5
      have HBk3 := Lib.hid (Blk.new w2 3 #[.int .i64 r.sg])
      have HC2 := Lib.hid hc
      have HV2 := Lib.hid hw'
      have hs1 : (bs ++ flat na ++ flat nb).length + 6 * 1 ≤ 70368744177664 := by
        have := wr_len (k := 1) hc (wr_len HC.out HS.out); omega
      clear hc hw' hx
      go_wp2_with fail
      refine (wr_numbers_is (B := B) HN3.out hs1 _ (HV2.out.alloc _) HBk3.out (by simp; omega)).mono ?_
      rintro e w3 ⟨hk, h⟩
      have HP : Hid (WrPost w B g bs r.toks e w3) := (WrPost.app (ta := [r.cl, r.tm, r.kd].map .num) HK.out HC.out (WrPost.app (ta := [r.ky, r.vl].map .sgn) HK2.out HC2.out
        (WrPost.from ⟨hk, h⟩ ((Kept.refl B g 5 w2).alloc (.cells #[.int .i64 r.sg] 3)))))
      clear hk
      rcases h with ⟨nc, hc, rfl, hw'⟩ | ⟨hc, rfl⟩
      all_goals
        clear hc
        (try clear hw')
        go_wp2
        go_ret
        exact HP.out
    · have HP : Hid (WrPost w B g bs r.toks (.returned (.bool false)) w2) := (WrPost.app (ta := [r.cl, r.tm, r.kd].map .num) HK.out HC.out (WrPost.bad (codes_app_none1 (l := [r.ky, r.vl].map .sgn) hc) HK2.out))
      clear hc hx
      go_wp2
      go_ret
      exact HP.out
  · have HC := Lib.hid hc
    clear hc hx
    go_wp2
    go_ret
    exact WrPost.bad (codes_app_none1 HC.out) HK.out
end Go.Proofs.YtiffmjfbdidgkaaGreat
