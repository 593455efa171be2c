/- Package reqs as it landed keeps what the walks of layer 5 ask of it. -/
import Derived.Test.YtdopgdaobpcbjaaReqOrd
import Derived.Test.YtdopgdaobpcbjaaReqEq
import Derived.Test.YtdopgdaobpcbjaaReqBatch
import Derived.Test.YtdopgdaobpcbjaaReqMake
namespace Go.Proofs.Ytdopgdaobpcbjaa
open Go.RowKit

set_option maxHeartbeats 400000 in
set_option maxRecDepth 100000 in
theorem rq_clone {A : Option Addr} {c n B : Nat} {zs : List Rq} {w : World} (h1 : Has w B A (reqCells zs)) (hn : zs.length = n) (hm : n ≤ 1000000) :
    Calls Try.prog 38 #[.slice A n c] w fun e w' => ∃ v, e = .returned v ∧ w'.ownsRow w.heap.size 34 6 v n (reqCells zs) ∧ Below w.heap.size w w' := by
  have hq := fun (w : World) => Lib.run_eql_slice_nil w 22 34 A n c 0 0 Try.underlying22
  cases A with
  | none =>
    have hz : zs = [] := by
      cases zs with
      | nil => rfl
      | cons z r =>
        obtain ⟨_, hA, _⟩ := h1 0 _ (show (reqCells (z :: r))[0]? = some (.int .i64 z.cl) from rfl)
        cases hA
    subst hz
    have hn0 : n = 0 := by simpa using hn.symm
    subst hn0
    go_enter Try.func38, Try.ntmps38
    go_wp2
    go_ret
    exact ⟨_, rfl, World.ownsRow_nil _ _ _ _, Below.refl _ _⟩
  | some ad =>
    obtain ⟨i0, hi0, hx0, hx1, hx2⟩ := info_parts info_req
    have hL : (reqCells zs).length = n * 6 := by rw [reqCells_len, hn]
    have h6 := reqCells_one zs
    have hh := h1.tight.below ((Below.refl _ _).alloc (Nat.le_refl _) (.cells #[] 34)) (Nat.le_refl _)
    have ho := World.ownsRow_made (e := 34) (size := 6) w #[] 0 (Nat.le_refl _) (by unfold maxLen; omega) (by simp)
    have HB := Lib.hid (show Below w.heap.size w (w.alloc (.cells #[] 34)) from (Below.refl _ _).alloc (Nat.le_refl _) _)
    have HO := Lib.hid ho
    have HH := Lib.hid hh
    have H6 := Lib.hid h6
    have HLn := Lib.hid hL
    have hm1 := Lib.hid (show 0 + n ≤ maxLen by unfold maxLen; omega)
    have hm2 := Lib.hid (show (0 + n) * 48 ≤ 140737488355328 by omega)
    clear ho hh h6 hL h1
    go_enter Try.func38, Try.ntmps38
    go_wp2_with (at_builtin; refine wpList_apps rfl _ _ 22 rfl w.heap.size 34 i0 _ 6 48 Try.underlying22 hi0 hx0 hx1 hx2 rfl (by decide) _ 0 [] rfl HO.out _ (some ad) n c (reqCells zs) rfl HLn.out HH.out (fun e => by cases e) H6.out hm1.out hm2.out HB.out.size ?_)
    intro v w1 ho hg _
    have HR := Lib.hid ho
    have HG := Lib.hid (HB.out.grown hg HB.out.size (fun k hk => by cases hk; exact Nat.le_refl _))
    clear ho hg
    go_wp2
    go_ret
    exact ⟨v, rfl, HR.out, HG.out⟩
set_option maxHeartbeats 1000000 in
set_option maxRecDepth 100000 in
theorem rq_order {A : Option Addr} {c n B : Nat} {zs : List Rq} {w : World} (h1 : Has w B A (reqCells zs)) (hn : zs.length = n) (hm : n ≤ 1000000) :
    Calls Try.prog 12 #[.slice A n c] w fun e w' => ∃ v, e = .returned v ∧ w'.ownsRow w.heap.size 34 6 v (orderS zs).length (reqCells (orderS zs)) ∧ Below w.heap.size w w' := by
  have HC := Lib.hid (rq_clone (c := c) h1 hn hm)
  clear h1
  have HN := Lib.hid hn
  go_enter Try.func12, Try.ntmps12
  go_wp2_with fail
  refine HC.out.mono ?_
  rintro e w2 ⟨v, rfl, ho, hb⟩
  obtain ⟨A2, c2, rfl, hnc, _⟩ := own_slice ho
  have HO := Lib.hid ho
  have HB := Lib.hid hb
  clear hb
  by_cases h0 : n = 0
  · subst h0
    have hz : zs = [] := List.eq_nil_of_length_eq_zero hn
    subst hz
    clear ho hn
    have KN := Lib.hid (fun p (w : World) => AnyF.slices_SortFunc_none { sortReq with } p c2 (.func (.func 34) #[] #[]) w)
    go_wp2_with fail
    refine (KN.out A2 w2).mono ?_
    rintro e w' ⟨rfl, rfl⟩
    go_wp2_with fail
    refine (compact_few A2 0 c2 (by omega) _).mono ?_
    rintro e w' ⟨rfl, rfl⟩
    go_wp2_with fail
    go_ret
    exact ⟨_, rfl, HO.out, HB.out⟩
  · have hA : ∃ g, A2 = some ⟨g, 0, none⟩ := by
      rcases ho.2 with ⟨_, h⟩ | ⟨g, cap, cur, hv, _⟩
      · omega
      · injection hv with h
        exact ⟨g, h⟩
    obtain ⟨g, rfl⟩ := hA
    have KS := Lib.hid (sort_reqs (d := zs.toArray) (c := c2) ho (by simpa using hn) hm)
    clear ho hn
    go_wp2_with fail
    refine KS.out.mono ?_
    rintro e w3 ⟨rfl, d, hd, hmem, hord, ho3, hb3⟩
    have HO3 := Lib.hid ho3
    have HB3 := Lib.hid (HB.out.trans hb3)
    have HE := Lib.hid (show Lib.compactUpTo d n = orderS zs by
      have := comp_order (zs := zs) (d := d) (fun i j hij hj => hord i j hij (by omega)) (fun r => by rw [hmem])
      rwa [hd] at this)
    have HD := Lib.hid hd
    clear hord hmem ho3 hb3 hd KS
    go_wp2_with fail
    by_cases h1 : n < 2
    · have HL := Lib.hid (show Lib.compactUpTo d n = d.toList by
        rw [Lib.compactUpTo_all d n (fun j hj => Lib.keeps_lt_one d j (by omega)), ← HD.out]
        exact Lib.range_map_get d)
      refine (compact_few _ n c2 h1 _).mono ?_
      rintro e w' ⟨rfl, rfl⟩
      go_wp2_with fail
      go_ret
      rw [← HE.out, HL.out]
      have hl : d.toList.length = n := by rw [← HD.out]; simp
      rw [hl]
      exact ⟨_, rfl, HO3.out, HB3.out⟩
    · have KC := Lib.hid (rq_compact HO3.out HD.out (by omega) hm)
      rw [HE.out] at KC
      refine KC.out.mono ?_
      rintro e w4 ⟨rfl, ho4, hb4⟩
      have HO4 := Lib.hid ho4
      have HB4 := Lib.hid (HB3.out.trans hb4)
      clear ho4 hb4
      go_wp2_with fail
      go_ret
      exact ⟨_, rfl, HO4.out, HB4.out⟩
theorem reqLaws : ReqLaws where
  valid := rq_valid
  body := rq_body
  compare := rq_compare
  has := fun h1 hn hl r => rq_has h1 hn hl r
  same := fun h1 hn hl h2 hn' => rq_same h1 hn hl h2 hn'
  order := fun h1 hn hl => rq_order h1 hn hl
  sealed := fun h r _ n _ => rq_sealed h r n
  batch := fun h _ _ _ _ _ h1 hk hl _ m n _ => by subst hk; exact rq_batch h h1 hl m n
  make := fun h hlen r _ hs n _ hn => rq_make h hlen r hs n hn
end Go.Proofs.Ytdopgdaobpcbjaa
