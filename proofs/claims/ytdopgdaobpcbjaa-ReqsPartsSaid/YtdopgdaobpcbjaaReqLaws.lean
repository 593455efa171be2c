/- What the walks of layer 5 ask of package reqs; the law's own example; keep.Copy at requests. -/
import Derived.Test.YtdopgdaobpcbjaaRefSealed
import Derived.Test.YtdopgdaobpcbjaaRefOrder
import Derived.Test.YtdopgdaobpcbjaaOpens
import Derived.Test.YtdopgdaobpcbjaaWithin
namespace Go.Proofs.Ytdopgdaobpcbjaa
open Go.RowKit

theorem valid_body {r : Rq} {n : Int} (h : validS r n = true) (hc : r.cl < 1099511627776) : ∃ bs, bodyS r = some bs := by
  have hv := of_decide_eq_true h
  have h1 : (Tok.num r.cl).code = some r.cl.toNat := code_num.2 ⟨by omega, by omega⟩
  have h2 : (Tok.num r.tm).code = some r.tm.toNat := code_num.2 ⟨by omega, by omega⟩
  have h3 : (Tok.num r.kd).code = some r.kd.toNat := code_num.2 ⟨by omega, by omega⟩
  have h4 := code_sgn_in (n := r.ky) (by omega)
  have h5 := code_sgn_in (n := r.vl) (by omega)
  have h6 : (Tok.num 0).code = some 0 := code_num.2 ⟨rfl, by omega⟩
  unfold bodyS bytesOf
  rw [show codes r.bare.toks = codes [.num r.cl, .num r.tm, .num r.kd, .sgn r.ky, .sgn r.vl, .num 0] from rfl]
  simp only [codes, h1, h2, h3, h4, h5, h6]
  exact ⟨_, rfl⟩
def zeroR : Rq := ⟨0, 0, 0, 0, 0, 0⟩
def Rq.with (r : Rq) (s : Int) : Rq := { r with sg := s }
/-- What Make leaves. -/
def MakePost (r : Rq) (n : Int) (L : List Deed) (nb bm : Nat) (w : World) (e : Ending) (w' : World) : Prop :=
  (validS r n = true ∧ ∃ bs, bodyS r = some bs ∧ e = .returned (.tuple #[.agg #[.int .i64 r.cl, .int .i64 r.tm, .int .i64 r.kd, .int .i64 r.ky, .int .i64 r.vl, .int .i64 (sealS L (100 + r.cl, strOfNums bs))], .int .i64 0]) ∧ Nt w' nb bm (sealed L (100 + r.cl, strOfNums bs)) ∧ Turn (fun k => k = bm) w w') ∨
  (validS r n = false ∧ e = .returned (.tuple #[.agg #[.int .i64 0, .int .i64 0, .int .i64 0, .int .i64 0, .int .i64 0, .int .i64 0], .int .i64 1]) ∧ Nt w' nb bm L ∧ Below w.heap.size w w')
/-- What the walks ask of package reqs. -/
structure ReqLaws : Prop where
  valid : ∀ (r : Rq) (n : Int) (w : World), Calls Try.prog 19 #[.agg #[.int .i64 r.cl, .int .i64 r.tm, .int .i64 r.kd, .int .i64 r.ky, .int .i64 r.vl, .int .i64 r.sg], .int .i64 n] w fun e w' => e = .returned (.bool (validS r n)) ∧ Below w.heap.size w w'
  body : ∀ (r : Rq) (w : World), Calls Try.prog 17 #[.agg #[.int .i64 r.cl, .int .i64 r.tm, .int .i64 r.kd, .int .i64 r.ky, .int .i64 r.vl, .int .i64 r.sg]] w (BytesPost r.bare.toks w)
  compare : ∀ (a b : Rq) (w : World), Calls Try.prog 34 #[.agg #[.int .i64 a.cl, .int .i64 a.tm, .int .i64 a.kd, .int .i64 a.ky, .int .i64 a.vl, .int .i64 a.sg], .agg #[.int .i64 b.cl, .int .i64 b.tm, .int .i64 b.kd, .int .i64 b.ky, .int .i64 b.vl, .int .i64 b.sg]] w fun e w' => e = .returned (.int .i64 (cmpR a b)) ∧ Below w.heap.size w w'
  has : ∀ {A : Option Addr} {c n B : Nat} {zs : List Rq} {w : World}, Has w B A (reqCells zs) → zs.length = n → n ≤ 1000000 → ∀ r : Rq, Calls Try.prog 32 #[.slice A n c, .agg #[.int .i64 r.cl, .int .i64 r.tm, .int .i64 r.kd, .int .i64 r.ky, .int .i64 r.vl, .int .i64 r.sg]] w fun e w' => e = .returned (.bool (hasB zs r)) ∧ Below w.heap.size w w'
  same : ∀ {A A' : Option Addr} {c c' n n' B B' : Nat} {zs ys : List Rq} {w : World}, Has w B A (reqCells zs) → zs.length = n → n ≤ 1000000 → Has w B' A' (reqCells ys) → ys.length = n' → Calls Try.prog 30 #[.slice A n c, .slice A' n' c'] w fun e w' => e = .returned (.bool (sameL zs ys)) ∧ Below w.heap.size w w'
  order : ∀ {A : Option Addr} {c n B : Nat} {zs : List Rq} {w : World}, Has w B A (reqCells zs) → zs.length = n → n ≤ 1000000 → Calls Try.prog 12 #[.slice A n c] w fun e w' => ∃ v, e = .returned v ∧ w'.ownsRow w.heap.size 34 6 v (orderS zs).length (reqCells (orderS zs)) ∧ Below w.heap.size w w'
  sealed : ∀ {w : World} {nb bm : Nat} {L : List Deed}, Nt w nb bm L → ∀ r : Rq, r.Fits → ∀ n : Int, fit n → Calls Try.prog 23 #[.agg #[.int .i64 r.cl, .int .i64 r.tm, .int .i64 r.kd, .int .i64 r.ky, .int .i64 r.vl, .int .i64 r.sg], .int .i64 n, .pointer (some ⟨nb, 0, none⟩)] w fun e w' => e = .returned (.bool (sealedS r n L)) ∧ Below w.heap.size w w'
  batch : ∀ {w : World} {nb bm : Nat} {L : List Deed}, Nt w nb bm L → ∀ {A : Option Addr} {c k B : Nat} {zs : List Rq}, Has w B A (reqCells zs) → zs.length = k → k ≤ 1000000 → (∀ r ∈ zs, r.Fits) → ∀ m n : Int, fit n → Calls Try.prog 13 #[.slice A k c, .int .i64 m, .int .i64 n, .pointer (some ⟨nb, 0, none⟩)] w fun e w' => e = .returned (.bool (rightS zs m n L)) ∧ Below w.heap.size w w'
  make : ∀ {w : World} {nb bm : Nat} {L : List Deed}, Nt w nb bm L → L.length ≤ 999999 → ∀ r : Rq, r.Fits → r.sg = 0 → ∀ n : Int, fit n → n ≤ 1073741824 → Calls Try.prog 27 #[.pointer (some ⟨nb, 0, none⟩), .int .i64 n, .int .i64 r.cl, .int .i64 r.tm, .agg #[.int .i64 r.kd, .int .i64 r.ky, .int .i64 r.vl]] w (MakePost r n L nb bm w)
theorem sealS_one (d : Deed) : sealS [] d = 1 := rfl
theorem sealed_one (d : Deed) : sealed [] d = [d] := rfl
theorem sealS_again (d : Deed) : sealS [d] d = 1 := by unfold sealS idx; rw [if_pos rfl]; rfl
theorem sealed_again (d : Deed) : sealed [d] d = [d] := sealed_in (by simp)
theorem fit_small {z : Int} (h1 : -9223372036854775808 ≤ z) (h2 : z ≤ 9223372036854775807) : fit z := by unfold fit Lit.wf; simp [IntKind.min, IntKind.max, IntKind.signed, IntKind.bits]; omega
/-- The example's request. -/
def exR : Rq := ⟨1, 5, 2, 3, 0, 0⟩
theorem exR_fits : exR.Fits := ⟨fit_small (by decide) (by decide), fit_small (by decide) (by decide), fit_small (by decide) (by decide), fit_small (by decide) (by decide), fit_small (by decide) (by decide), fit_small (by decide) (by decide)⟩
/-- A call that makes or seals, later than where a zone began. -/
theorem below_turn {w w1 w2 : World} {B bm : Nat} (h : Below B w w1) (hB : B ≤ w1.heap.size) (ht : Turn (fun k => k = bm) w1 w2) (hm : B ≤ bm) : Below B w w2 := h.trans (ht.below hB (fun k hk e => by omega))
set_option maxHeartbeats 2000000 in
theorem wakes5_any (M : ReqLaws) (w : World) : Calls Try.prog 14 #[] w fun e w' => e = .returned (.bool true) ∧ Below w.heap.size w w' := by
  have HM := Lib.hid M
  clear M
  go_enter Try.func14, Try.ntmps14
  go_wp2_with fail
  refine (new_any _).mono ?_
  rintro e w1 ⟨nb, bm, rfl, hN1, hnb, hbm, hb1⟩
  have HB1 := Lib.hid hb1
  have HN1 := Lib.hid hN1
  clear hN1 hb1
  go_wp2_with fail
  refine (HM.out.make HN1.out (by simp) exR exR_fits rfl 2 (fit_small (by decide) (by decide)) (by decide)).mono ?_
  rintro e w2 (⟨_, bs, hbs, rfl, hN2, ht2⟩ | ⟨hv, _⟩)
  · rw [sealed_one] at hN2
    rw [sealS_one]
    have HB2 := Lib.hid (below_turn HB1.out HB1.out.size ht2 hbm)
    have HN2 := Lib.hid hN2
    have HE := Lib.hid hbs
    clear hN2 ht2 hbs
    dsimp only [exR]
    go_wp2_with fail
    refine (HM.out.make (HN2.out.below ((Below.refl _ _).alloc (Nat.le_refl _) _)) (by simp) exR exR_fits rfl 2 (fit_small (by decide) (by decide)) (by decide)).mono ?_
    rintro e w3 (⟨_, bs2, hbs2, rfl, hN3, ht3⟩ | ⟨hv, _⟩)
    · rw [HE.out] at hbs2
      cases hbs2
      rw [sealS_again]
      have HB2a := Lib.hid (HB2.out.alloc HB2.out.size (.cells #[.int .i64 1, .int .i64 5, .int .i64 2, .int .i64 3, .int .i64 0, .int .i64 1] 34))
      have HB3 := Lib.hid (below_turn HB2a.out HB2a.out.size ht3 hbm)
      have hc := ht3.blk (Blk.new w2 34 #[.int .i64 1, .int .i64 5, .int .i64 2, .int .i64 3, .int .i64 0, .int .i64 1]) (fun e => by have := HN2.out.lt.2; omega)
      have d0 := hc.cell 0
      have d1 := hc.cell 1
      have d2 := hc.cell 2
      have d3 := hc.cell 3
      have d4 := hc.cell 4
      have d5 := hc.cell 5
      simp only [List.getElem?_toArray, List.getElem?_cons_zero, List.getElem?_cons_succ] at d0 d1 d2 d3 d4 d5
      dsimp only [exR]
      have hsz : w2.heap.size < w3.heap.size := by have := ht3.size; simp at this; omega
      clear hc hN3 ht3
      go_wp2_with fail
      go_ret
      exact ⟨rfl, HB3.out.alloc HB3.out.size _⟩
    · exact absurd hv (by decide)
  · exact absurd hv (by decide)

/-- keep.Copy at requests: a row of the call's own with the same requests. -/
theorem copy_reqs (A : Option Addr) (c n B : Nat) (l : List Rq) (w : World) (hl : l.length = n) (hm : n ≤ 1048576) (hh : Has w B A (reqCells l)) (hn : A = none → c = 0) :
    Calls Try.prog 16 #[.slice A n c] w fun e w' => ∃ v, e = .returned v ∧ w'.ownsRow w.heap.size 34 6 v n (reqCells l) ∧ Below w.heap.size w w' := by
  obtain ⟨i0, hi0, hx0, hx1, hx2⟩ := info_parts info_req
  have hL : (reqCells l).length = n * 6 := by rw [reqCells_len, hl]
  have h6 := reqCells_one l
  go_enter Try.func16, Try.ntmps16
  go_wp2_with (at_builtin; refine wpList_apps rfl _ _ 22 rfl w.heap.size 34 i0 _ 6 48 Try.underlying22 hi0 hx0 hx1 hx2 rfl (by decide) _ 0 [] rfl (World.ownsRow_nil _ _ _ _) B A n c (reqCells l) rfl hL hh hn h6 (by unfold maxLen; omega) (by omega) (Nat.le_refl _) ?_)
  intro v w1 ho hg _
  go_wp2
  go_ret
  exact ⟨v, rfl, by simpa using ho, (Below.refl _ _).grown hg (Nat.le_refl _) (fun k hk => by cases hk)⟩
end Go.Proofs.Ytdopgdaobpcbjaa
