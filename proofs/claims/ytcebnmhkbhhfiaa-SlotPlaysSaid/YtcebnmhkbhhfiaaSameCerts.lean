/- The contracts of keep.Cert, keep.Certs, keep.Parts: whether two are the same. -/
import Derived.Test.YtcebnmhkbhhfiaaSameVotes
import Derived.StillTailTactics
namespace Go.Proofs.Ytcebnmhkbhhfiaa
open Go.RowKit

theorem sameL_true {α : Type} [DecidableEq α] {l m : List α} : sameL l m = true ↔ l = m := by simp [sameL]
theorem same_reqs_is {A A' : Option Addr} {c c' la lb : Nat} {zs ys : List Rq} {B : Nat} {r : Bool} (ha : zs.length = la) (hb : ys.length = lb) (hl : la ≤ 9223372036854775806) (hr : sameL zs ys = r) (w : World) (h1 : Has w B A (reqCells zs)) (h2 : Has w B A' (reqCells ys)) :
    Calls Try.prog 33 #[.slice A la c, .slice A' lb c'] w fun e w' => e = .returned (.bool r) ∧ ∃ nq, w' = w.drewN nq := by
  subst ha; subst hb; subst hr
  exact same_reqs A A' c c' zs ys B w hl h1 h2
theorem same_votes_is {A A' : Option Addr} {c c' la lb : Nat} {zs ys : List Vt} {B : Nat} {r : Bool} (ha : zs.length = la) (hb : ys.length = lb) (hl : la ≤ 9223372036854775806) (hr : sameL zs ys = r) (w : World) (h1 : Has w B A (voteCells zs)) (h2 : Has w B A' (voteCells ys)) :
    Calls Try.prog 26 #[.slice A la c, .slice A' lb c'] w fun e w' => e = .returned (.bool r) ∧ ∃ nq, w' = w.drewN nq := by
  subst ha; subst hb; subst hr
  exact same_votes A A' c c' zs ys B w hl h1 h2
theorem Has.two {w : World} {B : Nat} {A : Option Addr} {xs : List Value} (h : Has w B A xs) (hB : B ≤ w.heap.size) (o1 o2 : Obj) : Has ((w.alloc o1).alloc o2) B A xs :=
  (h.below ((Below.refl B w).alloc hB o1) (Nat.le_refl _)).below ((Below.refl B (w.alloc o1)).alloc (by simp; omega) o2) (Nat.le_refl _)
def smallCert (c : Ct) : Prop := c.bt.length ≤ 9223372036854775806 ∧ c.vs.length ≤ 9223372036854775806

set_option maxHeartbeats 1000000 in
theorem same_cert (x y : Cs) (B : Nat) (w : World) (hx : x.In w B) (hy : y.In w B) (hB : B ≤ w.heap.size) (hs : smallCert x.c) :
    Calls Try.prog 21 #[.agg #[.int .i64 x.c.vw, .int .i64 x.c.ins, .int .i64 x.c.sq, .slice x.A1 x.c.bt.length x.c1, .slice x.A2 x.c.vs.length x.c2], .agg #[.int .i64 y.c.vw, .int .i64 y.c.ins, .int .i64 y.c.sq, .slice y.A1 y.c.bt.length y.c1, .slice y.A2 y.c.vs.length y.c2]] w
      fun e w' => e = .returned (.bool (decide (x.c = y.c))) ∧ Below w.heap.size w w' := by
  have HX := Lib.hid hx
  have HY := Lib.hid hy
  obtain ⟨hs1, hs2⟩ := hs
  clear hx hy
  by_cases h1 : x.c.vw = y.c.vw
  · by_cases h2 : x.c.ins = y.c.ins
    · by_cases h3 : x.c.sq = y.c.sq
      · have t1 : (x.c.vw == y.c.vw) = true := by simpa using h1
        have t2 : (x.c.ins == y.c.ins) = true := by simpa using h2
        have t3 : (x.c.sq == y.c.sq) = true := by simpa using h3
        have HE := Lib.hid (show (decide (x.c = y.c)) = (sameL x.c.bt y.c.bt && sameL x.c.vs y.c.vs) by
          rcases x with ⟨⟨a, b, c, d, e⟩, _⟩
          rcases y with ⟨⟨a', b', c', d', e'⟩, _⟩
          simp only at h1 h2 h3
          subst h1; subst h2; subst h3
          simp [sameL])
        clear h1 h2 h3
        obtain ⟨r1, hr1⟩ : ∃ r, sameL x.c.bt y.c.bt = r := ⟨_, rfl⟩
        obtain ⟨r2, hr2⟩ : ∃ r, sameL x.c.vs y.c.vs = r := ⟨_, rfl⟩
        have HR1 := Lib.hid hr1
        have HR2 := Lib.hid hr2
        clear hr1 hr2
        go_enter Try.func21, Try.ntmps21
        go_wp2_with fail
        refine (same_reqs_is rfl rfl hs1 HR1.out _ (HX.out.bt.two hB _ _) (HY.out.bt.two hB _ _)).mono ?_
        rintro e w1 ⟨rfl, nq, rfl⟩
        cases r1
        · go_wp2_with fail
          go_ret
          exact ⟨by rw [HE.out, HR1.out]; rfl, below_drewN (((Below.refl _ w).alloc (Nat.le_refl _) _).alloc (by simp) _) _⟩
        · go_wp2_with fail
          refine (same_votes_is rfl rfl hs2 HR2.out _ ((HX.out.vs.two hB _ _).drewN nq) ((HY.out.vs.two hB _ _).drewN nq)).mono ?_
          rintro e w1 ⟨rfl, nq2, rfl⟩
          go_wp2_with fail
          go_ret
          exact ⟨by rw [HE.out, HR1.out, HR2.out]; rfl, below_drewN (((Below.refl _ w).alloc (Nat.le_refl _) _).alloc (by simp) _) _⟩
      · have t1 : (x.c.vw == y.c.vw) = true := by simpa using h1
        have t2 : (x.c.ins == y.c.ins) = true := by simpa using h2
        have t3 : (x.c.sq == y.c.sq) = false := by simpa using h3
        have HE := Lib.hid (show (decide (x.c = y.c)) = false by rw [decide_eq_false_iff_not]; exact fun h => h3 (by rw [h]))
        clear h1 h2 h3
        go_enter Try.func21, Try.ntmps21
        go_wp2_with fail
        go_ret
        exact ⟨by rw [HE.out]; rfl, ((Below.refl _ w).alloc (Nat.le_refl _) _).alloc (by simp) _⟩
    · have t1 : (x.c.vw == y.c.vw) = true := by simpa using h1
      have t2 : (x.c.ins == y.c.ins) = false := by simpa using h2
      have HE := Lib.hid (show (decide (x.c = y.c)) = false by rw [decide_eq_false_iff_not]; exact fun h => h2 (by rw [h]))
      clear h1 h2
      go_enter Try.func21, Try.ntmps21
      go_wp2_with fail
      go_ret
      exact ⟨by rw [HE.out]; rfl, ((Below.refl _ w).alloc (Nat.le_refl _) _).alloc (by simp) _⟩
  · have t1 : (x.c.vw == y.c.vw) = false := by simpa using h1
    have HE := Lib.hid (show (decide (x.c = y.c)) = false by rw [decide_eq_false_iff_not]; exact fun h => h1 (by rw [h]))
    clear h1
    go_enter Try.func21, Try.ntmps21
    go_wp2_with fail
    go_ret
    exact ⟨by rw [HE.out]; rfl, ((Below.refl _ w).alloc (Nat.le_refl _) _).alloc (by simp) _⟩

theorem Below.reads {w w' : World} (hb : Below w.heap.size w w') {B : Nat} (hB : B ≤ w.heap.size) : Reads B B w w' := Reads.below hb hB

set_option maxHeartbeats 1000000 in
set_option maxRecDepth 100000 in
theorem same_certs (A A' : Option Addr) (c c' : Nat) (zs ys : List Ct) (B : Nat) (w : World) (hl : zs.length ≤ 9223372036854775806) (h1 : HasCerts w B A zs) (h2 : HasCerts w B A' ys) (hB : B ≤ w.heap.size) (hs : ∀ x ∈ zs, smallCert x) :
    Calls Try.prog 57 #[.slice A zs.length c, .slice A' ys.length c'] w fun e w' => e = .returned (.bool (sameL zs ys)) ∧ Below w.heap.size w w' := by
  have H1 := Lib.hid h1
  have H2 := Lib.hid h2
  have HS := Lib.hid hs
  clear h1 h2 hs
  by_cases hlen : zs.length = ys.length
  · have HL := Lib.hid hlen
    go_enter Try.func57, Try.ntmps57
    go_wp2
    clear hlen
    go_loopw [5] (fun x wr => ∃ (k : Nat), x = .int .i64 k ∧ k ≤ zs.length ∧ Below w.heap.size w wr ∧ Hid (zs.take k = ys.take k)) (fun x _ => zs.length - (intOf x).toNat)
    case atStart => exact ⟨0, rfl, Nat.zero_le _, Below.refl _ _, rfl⟩
    case round =>
      obtain ⟨k, rfl, hk, hb, HT⟩ := hrel
      by_cases hlt : k < zs.length
      · have hlt2 : k < ys.length := by rw [← HL.out]; exact hlt
        obtain ⟨a1, x, rfl, _, hx, ix, c0, c1, c2, c3, c4⟩ := (H1.out.reads (Reads.below hb hB)).at hlt
        obtain ⟨a2, y, rfl, _, hy, iy, d0, d1, d2, d3, d4⟩ := (H2.out.reads (Reads.below hb hB)).at hlt2
        have HX := Lib.hid hx
        have HY := Lib.hid hy
        have HIX := Lib.hid ix
        have HIY := Lib.hid iy
        have hbs := hb.size
        have HC := Lib.hid (HS.out _ (List.getElem_mem hlt))
        rw [← hx] at HC
        clear hx hy ix iy
        go_wp2
        go_still_tail 8, (by kernel_rfl)
        change wpList _ _ _ _ _ wr.drew
        have hb1 : Below w.heap.size w wr.drew := hb.drew
        obtain ⟨wd, hwd⟩ : ∃ wd, wr.drew = wd := ⟨_, rfl⟩
        have HIX2 := Lib.hid (HIX.out.reads (w' := wd) (fun A xs (h : Has wr B A xs) => by rw [← hwd]; exact h.drew))
        have HIY2 := Lib.hid (HIY.out.reads (w' := wd) (fun A xs (h : Has wr B A xs) => by rw [← hwd]; exact h.drew))
        rw [hwd] at hb1 ⊢
        clear hwd HIX HIY c0 c1 c2 c3 c4 d0 d1 d2 d3 d4 hb hbs
        have hbs := hb1.size
        obtain ⟨r, hr⟩ : ∃ r, decide (x.c = y.c) = r := ⟨_, rfl⟩
        have HCal := Lib.hid (fun w hx hy hB => same_cert x y B w hx hy hB HC.out)
        rw [hr] at HCal
        cases r
        · have HF := Lib.hid (sameL_far hlt hlt2 (by rw [← HX.out, ← HY.out]; simpa using hr))
          clear hr
          go_wp2_with fail
          refine (HCal.out _ HIX2.out HIY2.out (by omega)).mono ?_
          rintro e w2 ⟨rfl, hb2⟩
          go_wp2
          go_ret
          exact ⟨by rw [HF.out]; rfl, hb1.trans (hb2.mono hb1.size)⟩
        · have HF := Lib.hid (takeL_next hlt hlt2 HT.out (by rw [← HX.out, ← HY.out]; simpa using hr))
          clear hr
          go_wp2_with fail
          refine (HCal.out _ HIX2.out HIY2.out (by omega)).mono ?_
          rintro e w2 ⟨rfl, hb2⟩
          have hb3 := hb1.trans (hb2.mono hb1.size)
          go_wp2
          go_roundw
          case rel => exact ⟨k + 1, by go_num, by omega, hb3, HF.out⟩
          case measure => simp [intOf]; omega
      · have HS := Lib.hid (sameL_end (by omega : zs.length ≤ k) HT.out HL.out)
        go_wp2
        go_ret
        exact ⟨by rw [HS.out]; rfl, hb⟩
  · have HS := Lib.hid (sameL_len hlen)
    have hb : decide (zs.length = ys.length) = false := by simpa using hlen
    have hb2 : ((zs.length : Int) != ys.length) = true := by simp; omega
    go_enter Try.func57, Try.ntmps57
    go_wp2
    go_ret
    exact ⟨by rw [HS.out]; rfl, Below.refl _ _⟩
theorem same_certs_is {A A' : Option Addr} {c c' la lb : Nat} {zs ys : List Ct} {B : Nat} {r : Bool} (ha : zs.length = la) (hb : ys.length = lb) (hl : la ≤ 9223372036854775806) (hr : sameL zs ys = r) (hs : ∀ x ∈ zs, smallCert x)
    (w : World) (hB : B ≤ w.heap.size) (h1 : HasCerts w B A zs) (h2 : HasCerts w B A' ys) :
    Calls Try.prog 57 #[.slice A la c, .slice A' lb c'] w fun e w' => e = .returned (.bool r) ∧ Below w.heap.size w w' := by
  subst ha; subst hb; subst hr
  exact same_certs A A' c c' zs ys B w hl h1 h2 hB hs
end Go.Proofs.Ytcebnmhkbhhfiaa
