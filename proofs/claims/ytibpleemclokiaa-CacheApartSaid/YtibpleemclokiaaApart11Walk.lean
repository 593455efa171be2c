/- The walk of CacheApart: it returns true for any list of acts and any int. -/
import Derived.Test.YtibpleemclokiaaCacheOne
import Derived.Test.YtibpleemclokiaaWithin
import Derived.Deep.DeepCutAuto
import Derived.Deep.RegionHeld3
namespace Go.Proofs.Ytibpleemclokiaa
open Go.RowKit Go.Maps
set_option linter.unusedSimpArgs false

/-- Two caches made since w; one client has the same reply in both. -/
structure Rp (w : World) (cb g c db g' c' : Nat) (q : Int) (L M : List (Int × Int)) (wr : World) : Prop where
  c : Rc w cb g c L wr
  d : Rc w db g' c' M wr
  n1 : g ≠ db
  n2 : g ≠ g'
  n3 : g' ≠ cb
  len : L.length = M.length
  same : atL L q = atL M q
section
variable {w wr wz : World} {cb g c db g' c' : Nat} {q cl tm rs : Int} {L M : List (Int × Int)}
theorem Rp.drew (h : Rp w cb g c db g' c' q L M wr) : Rp w cb g c db g' c' q L M wr.drew := ⟨h.c.drew, h.d.drew, h.n1, h.n2, h.n3, h.len, h.same⟩
theorem Rp.drewN (h : Rp w cb g c db g' c' q L M wr) (n : Nat) : Rp w cb g c db g' c' q L M (wr.drewN n) := ⟨h.c.drewN n, h.d.drewN n, h.n1, h.n2, h.n3, h.len, h.same⟩
theorem Rc.far {h2 db g' c' : Nat} (h : Rc w db g' c' M wr) (ht : Turn (fun j => j = h2) wr wz) (h1 : h2 ≠ db) (h3 : h2 ≠ g') (hl : w.heap.size ≤ h2) : Rc w db g' c' M wz :=
  ⟨h.ch.kept ht (fun e => h1 e.symm) (fun e => h3 e.symm), h.lc, h.lg, h.late, h.low.trans (ht.below h.low.size (fun k hk e => by omega))⟩
theorem Rp.other (h : Rp w cb g c db g' c' q L M wr) (hq : cl ≠ q) (hc : Ch wz cb g c (putS L cl tm rs).2) (ht : Turn (fun j => j = g) wr wz) : Rp w cb g c db g' c' q (putS L cl tm rs).2 M wz := by
  refine ⟨h.c.put hc ht, h.d.far ht h.n1 h.n2 h.c.lg, h.n1, h.n2, h.n3, (putS_len _ _ _ _).trans h.len, ?_⟩
  obtain ⟨b, L', hp⟩ : ∃ b L', putS L cl tm rs = (b, L') := ⟨_, _, rfl⟩
  rw [hp]
  cases b
  · rw [putS_no hp]; exact h.same
  · rw [(putS_yes hp).2, if_neg (fun e => hq e.symm)]; exact h.same
theorem putS_same (hl : L.length = M.length) (hs : atL L q = atL M q) : (putS L q tm rs).1 = (putS M q tm rs).1 ∧ atL (putS L q tm rs).2 q = atL (putS M q tm rs).2 q := by
  have h1 : (putS L q tm rs).1 = (putS M q tm rs).1 := by
    unfold putS
    rw [hl, hs]
    split <;> rfl
  refine ⟨h1, ?_⟩
  obtain ⟨b, L', hp⟩ : ∃ b L', putS L q tm rs = (b, L') := ⟨_, _, rfl⟩
  obtain ⟨b', M', hp'⟩ : ∃ b L', putS M q tm rs = (b, L') := ⟨_, _, rfl⟩
  rw [hp, hp'] at h1 ⊢
  obtain rfl : b = b' := h1
  cases b
  · rw [putS_no hp, putS_no hp']; exact hs
  · rw [(putS_yes hp).2, (putS_yes hp').2, if_pos rfl, if_pos rfl]
theorem Rp.both {wy : World} (h : Rp w cb g c db g' c' q L M wr) (hc : Ch wy cb g c (putS L q tm rs).2) (ht : Turn (fun j => j = g) wr wy) (hd : Ch wz db g' c' (putS M q tm rs).2) (ht2 : Turn (fun j => j = g') wy wz) :
    Rp w cb g c db g' c' q (putS L q tm rs).2 (putS M q tm rs).2 wz :=
  ⟨(h.c.put hc ht).far ht2 h.n3 (fun e => h.n2 e.symm) h.d.lg, (h.d.far ht h.n1 h.n2 h.c.lg).put hd ht2, h.n1, h.n2, h.n3, by rw [putS_len, putS_len]; exact h.len, (putS_same h.len h.same).2⟩
end
set_option maxRecDepth 100000 in
set_option maxHeartbeats 4000000 in
theorem cacheApart_walk (A : Option Addr) (c0 : Nat) (l : List Ac) (a1 : Int) (w : World) (w0 : IsActs w A l c0) (w1 : (Lit.int .i64 a1).wf = true) :
    Calls Try.prog 3 #[.slice A l.length c0, .int .i64 a1] w fun e w' => e = .returned (.bool true) ∧ Below w.heap.size w w' := by
  obtain ⟨b0, b1⟩ := wf_i64 w1
  obtain ⟨q, hq⟩ : ∃ q : Nat, a1 % 4 = q := ⟨(a1 % 4).toNat, by omega⟩
  have hq4 : q < 4 := by omega
  have HW := Lib.hid (fun w => within_any a1 4 (by omega) (by omega) b0 b1 w)
  rw [hq] at HW
  have HA := Lib.hid w0.has
  obtain ⟨n, hn⟩ : ∃ n, l.length = n := ⟨_, rfl⟩
  rw [hn]
  have HN := Lib.hid hn
  have HM := Lib.hid (show n ≤ maxLen by rw [← hn]; exact Nat.le_trans w0.le w0.most)
  clear hq w0 w1 b0 b1 hn
  go_enter Try.func3, Try.ntmps3
  go_wp2_with fail
  refine (HW.out _).mono ?_
  rintro e wv ⟨rfl, rfl⟩
  go_wp2_with fail
  refine (rc_new (n := 4) (by omega) (by omega) w w (Below.refl _ _)).mono ?_
  rintro e w1 ⟨cb, g, c, rfl, hC, hb1, -, -⟩
  have HC1 := Lib.hid hC
  have HB1 := Lib.hid hb1
  clear hC hb1
  go_wp2_with fail
  refine (rc_new (n := 4) (by omega) (by omega) w w1 HB1.out).mono ?_
  rintro e w2 ⟨db, g', c', rfl, hD, hb2, q1, q2⟩
  have HC := Lib.hid (show Rp w cb g c db g' c' (q : Int) (List.replicate 4 (0, 0)) (List.replicate 4 (0, 0)) w2 from
    ⟨HC1.out.below hb2, hD, by have := HC1.out.ch.lt; omega, by have := HC1.out.ch.lt; omega, by have := HC1.out.ch.lt; omega, rfl, rfl⟩)
  clear hD hb2 q1 q2
  go_wp2_with fail
  go_loopw [9] (fun x wr => ∃ (k : Nat) (L M : List (Int × Int)), x = .int .i64 k ∧ k ≤ n ∧ k ≤ 80 ∧ Hid (Rp w cb g c db g' c' (q : Int) L M wr)) (fun x _ => n - (intOf x).toNat)
  case atStart => exact ⟨0, _, _, rfl, Nat.zero_le _, Nat.zero_le _, HC⟩
  case round =>
    obtain ⟨k, L, M, rfl, hk, hk2, HC⟩ := hrel
    by_cases hlt : k < n ∧ k < 80
    · obtain ⟨hlt1, hlt2⟩ := hlt
      obtain ⟨ad, rfl, hab, -, h1, h2, h3⟩ := act_at (HC.out.c.has HA.out) (show k < l.length by rw [HN.out]; exact hlt1)
      obtain ⟨⟨dd, cl, tm, rs⟩, hx⟩ : ∃ x, l[k]'(by rw [HN.out]; exact hlt1) = x := ⟨_, rfl⟩
      rw [hx] at h1 h2 h3
      simp only at h1 h2 h3
      have HCells := Lib.hid (fun (w' : World) (hb : w'.heap[(ad.add (k * 4)).block]? = wr.heap[(ad.add (k * 4)).block]?) => show (w'.cell? ⟨(ad.add (k * 4)).block, (ad.add (k * 4)).off + 1, none⟩ = some (.int .i64 cl) ∧ w'.cell? ⟨(ad.add (k * 4)).block, (ad.add (k * 4)).off + 2, none⟩ = some (.int .i64 tm) ∧ w'.cell? ⟨(ad.add (k * 4)).block, (ad.add (k * 4)).off + 3, none⟩ = some (.int .i64 rs)) from ⟨(World.cell?_of_block (a := ⟨(ad.add (k * 4)).block, (ad.add (k * 4)).off + 1, none⟩) hb).trans h1, (World.cell?_of_block (a := ⟨(ad.add (k * 4)).block, (ad.add (k * 4)).off + 2, none⟩) hb).trans h2, (World.cell?_of_block (a := ⟨(ad.add (k * 4)).block, (ad.add (k * 4)).off + 3, none⟩) hb).trans h3⟩)
      have HNE := Lib.hid (show (ad.add (k * 4)).block < wr.heap.size ∧ (ad.add (k * 4)).block ≠ g ∧ (ad.add (k * 4)).block ≠ g' from by
        rw [addr_block]
        have := HC.out.c.lg
        have := HC.out.d.lg
        have := HC.out.c.low.size
        exact ⟨by omega, by omega, by omega⟩)
      clear hx h1 h2 h3 hab
      have hq1 := HCells.out wr.drew rfl
      have HCd := Lib.hid HC.out.drew
      by_cases hcl : cl = (q : Int)
      · obtain rfl := hcl
        have HP := Lib.hid (cput_any HCd.out.c.ch (q : Int) tm rs)
        obtain ⟨hs1, -⟩ := putS_same (tm := tm) (rs := rs) HC.out.len HC.out.same
        obtain ⟨ok, hok⟩ : ∃ b, (putS L (q : Int) tm rs).1 = b := ⟨_, rfl⟩
        rw [hok] at HP hs1
        have HS1 := Lib.hid hs1
        clear hs1 hok
        go_wp2_with fail
        go_region_held3 (fun w' => w'.cell? ⟨(ad.add (k * 4)).block, (ad.add (k * 4)).off + 1, none⟩ = some (.int .i64 (q : Int)) ∧ w'.cell? ⟨(ad.add (k * 4)).block, (ad.add (k * 4)).off + 2, none⟩ = some (.int .i64 tm) ∧ w'.cell? ⟨(ad.add (k * 4)).block, (ad.add (k * 4)).off + 3, none⟩ = some (.int .i64 rs)) (first | exact hq1 | exact hq2 | go_keep) ((go_at_call 8; refine HP.out.mono ?_; rintro e w2 ⟨rfl, hC2, ht2⟩; have hq2 := HCells.out w2 (ht2.block _ HNE.out.1 HNE.out.2.1)))
        have HC2 := Lib.hid hC2
        have HT2 := Lib.hid ht2
        have hr1 := HCells.out w2.drew (ht2.block _ HNE.out.1 HNE.out.2.1)
        have HS2 := Lib.hid (show (ad.add (k * 4)).block < w2.drew.heap.size from Nat.lt_of_lt_of_le HNE.out.1 ht2.size)
        have HE2 := Lib.hid (ht2.block (ad.add (k * 4)).block HNE.out.1 HNE.out.2.1)
        have HP2 := Lib.hid (cput_any (show Ch w2.drew db g' c' M from ((HCd.out.d.far ht2 HC.out.n1 HC.out.n2 HC.out.c.lg).drew).ch) (q : Int) tm rs)
        rw [← HS1.out] at HP2
        clear hq1 hq2 hC2 ht2
        go_wp2_with fail
        go_region_held3 (fun w' => w'.cell? ⟨(ad.add (k * 4)).block, (ad.add (k * 4)).off + 1, none⟩ = some (.int .i64 (q : Int)) ∧ w'.cell? ⟨(ad.add (k * 4)).block, (ad.add (k * 4)).off + 2, none⟩ = some (.int .i64 tm) ∧ w'.cell? ⟨(ad.add (k * 4)).block, (ad.add (k * 4)).off + 3, none⟩ = some (.int .i64 rs)) (first | exact hr1 | exact hr2 | go_keep) ((go_at_call 8; refine HP2.out.mono ?_; rintro e w3 ⟨rfl, hD3, ht3⟩; have hr2 := HCells.out w3 ((ht3.block _ HS2.out HNE.out.2.2).trans HE2.out)))
        have HR := Lib.hid (HCd.out.both HC2.out HT2.out hD3 (show Turn (fun j => j = g') w2 w3 from ⟨ht3.os, ht3.tape, ht3.output, ht3.size, ht3.block⟩))
        clear hr1 hr2 hD3 ht3 HC2 HT2 HP HP2
        have g3 : (ok != ok) = false := by cases ok <;> rfl
        go_wp2_with fail
        go_roundw
        case rel => exact ⟨k + 1, _, _, by go_num, by omega, by omega, HR⟩
        case measure => simp [intOf]; omega
      · have HP := Lib.hid (cput_any HCd.out.c.ch cl tm rs)
        have HPT := Lib.hid (fun (wz : World) hc ht => HCd.out.other (wz := wz) (tm := tm) (rs := rs) hcl hc ht)
        obtain ⟨ok, hok⟩ : ∃ b, (putS L cl tm rs).1 = b := ⟨_, rfl⟩
        rw [hok] at HP
        have g0 : (cl == (q : Int)) = false := by simp [hcl]
        clear hok hcl
        go_wp2_with fail
        go_region_held3 (fun w' => w'.cell? ⟨(ad.add (k * 4)).block, (ad.add (k * 4)).off + 1, none⟩ = some (.int .i64 cl) ∧ w'.cell? ⟨(ad.add (k * 4)).block, (ad.add (k * 4)).off + 2, none⟩ = some (.int .i64 tm) ∧ w'.cell? ⟨(ad.add (k * 4)).block, (ad.add (k * 4)).off + 3, none⟩ = some (.int .i64 rs)) (first | exact hq1 | exact hq2 | go_keep) ((go_at_call 8; refine HP.out.mono ?_; rintro e w2 ⟨rfl, hC2, ht2⟩; have hq2 := HCells.out w2 (ht2.block _ HNE.out.1 HNE.out.2.1)))
        have HR := Lib.hid (HPT.out _ hC2 ht2)
        have d1 := fun (n : Nat) => (show (w2.drewN n).cell? ⟨(ad.add (k * 4)).block, (ad.add (k * 4)).off + 1, none⟩ = some (.int .i64 cl) from hq2.1)
        clear hC2 ht2 hq1 hq2 HP
        go_wp2_with fail
        go_quiet (fail)
        go_wp2_with fail
        go_roundw
        case rel => exact ⟨k + 1, _, _, by go_num, by omega, by omega, Lib.hid (HR.out.drewN _)⟩
        case measure => simp [intOf]; omega
    · have g1 : (decide ((k : Int) < (n : Int)) && decide ((k : Int) < 80)) = false := by simp; omega
      obtain ⟨x, hx⟩ : ∃ x, atL L q = x := ⟨_, rfl⟩
      have hy := HC.out.same
      rw [hx] at hy
      obtain ⟨p, r⟩ := x
      obtain ⟨⟨u, v⟩, hu⟩ : ∃ z : Int × Bool, (if 0 < p then (r, true) else (0, false)) = z := ⟨_, rfl⟩
      have hgL : getS L q p = (u, v) := by unfold getS; rw [hx]; simp only [and_true]; exact hu
      have hgM : getS M q p = (u, v) := by unfold getS; rw [← hy]; simp only [and_true]; exact hu
      have HLa := Lib.hid (clast_any HC.out.c.ch (q : Int))
      have HLb := Lib.hid (clast_any HC.out.d.ch (q : Int))
      have HGa := Lib.hid (cget_any HC.out.c.ch (q : Int) p)
      have HGb := Lib.hid (cget_any HC.out.d.ch (q : Int) p)
      rw [hx] at HLa
      rw [← hy] at HLb
      rw [hgL] at HGa
      rw [hgM] at HGb
      simp only at HLa HLb HGa HGb
      have g3 : (v == v) = true := by cases v <;> rfl
      clear hx hy hu hgL hgM
      by_cases hk1 : k < n
      · go_wp2_with fail
        refine HLa.out.mono ?_
        rintro e w3 ⟨rfl, rfl⟩
        go_wp2_with fail
        refine HGa.out.mono ?_
        rintro e w3 ⟨rfl, rfl⟩
        go_wp2_with fail
        refine HLb.out.mono ?_
        rintro e w3 ⟨rfl, rfl⟩
        go_wp2_with fail
        refine HGb.out.mono ?_
        rintro e w3 ⟨rfl, rfl⟩
        go_wp2_with fail
        refine HLa.out.mono ?_
        rintro e w3 ⟨rfl, rfl⟩
        go_wp2_with fail
        refine HLb.out.mono ?_
        rintro e w3 ⟨rfl, rfl⟩
        go_wp2_with fail
        refine (wakes11_any _).mono ?_
        rintro e w9 ⟨rfl, hb9⟩
        go_wp2_with fail
        go_ret
        exact ⟨rfl, (HC.out.c.below hb9).low⟩
      · go_wp2_with fail
        refine HLa.out.mono ?_
        rintro e w3 ⟨rfl, rfl⟩
        go_wp2_with fail
        refine HGa.out.mono ?_
        rintro e w3 ⟨rfl, rfl⟩
        go_wp2_with fail
        refine HLb.out.mono ?_
        rintro e w3 ⟨rfl, rfl⟩
        go_wp2_with fail
        refine HGb.out.mono ?_
        rintro e w3 ⟨rfl, rfl⟩
        go_wp2_with fail
        refine HLa.out.mono ?_
        rintro e w3 ⟨rfl, rfl⟩
        go_wp2_with fail
        refine HLb.out.mono ?_
        rintro e w3 ⟨rfl, rfl⟩
        go_wp2_with fail
        refine (wakes11_any _).mono ?_
        rintro e w9 ⟨rfl, hb9⟩
        go_wp2_with fail
        go_ret
        exact ⟨rfl, (HC.out.c.below hb9).low⟩
end Go.Proofs.Ytibpleemclokiaa
