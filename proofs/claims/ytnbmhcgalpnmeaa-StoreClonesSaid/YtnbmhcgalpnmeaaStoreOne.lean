/- Package store: a store made since w; the example of the document. -/
import Derived.Test.YtnbmhcgalpnmeaaStoreApply
import Derived.Test.YtnbmhcgalpnmeaaStoreAll
import Derived.Test.YtnbmhcgalpnmeaaStoreSame
import Derived.Test.YtnbmhcgalpnmeaaWithin
namespace Go.Proofs.Ytnbmhcgalpnmeaa
open Go.RowKit Go.Maps

theorem kmod (x n : Int) (h : 0 < n) : 0 ≤ x % n ∧ x % n < n := ⟨Int.emod_nonneg _ (by omega), Int.emod_lt_of_pos _ h⟩
/-- A store that was made since w. -/
structure Sn (w : World) (sb bm N : Nat) (V : Kv) (wr : World) : Prop where
  st : St wr sb bm N V
  low : Below w.heap.size w wr
  b0 : w.heap.size ≤ sb
  b1 : w.heap.size ≤ bm
section
variable {w wr : World} {sb bm N : Nat} {V : Kv}
theorem Sn.turned {Z : Nat → Prop} {w2 : World} (h : Sn w sb bm N V wr) (ht : Turn Z wr w2) (hz : ∀ k, Z k → k = bm) : Below w.heap.size w w2 :=
  h.low.trans (ht.below h.low.size (fun k hk hz' => by have h1 := h.b1; have e := hz k hz'; omega))
theorem Sn.below {w2 : World} (h : Sn w sb bm N V wr) (hb : Below wr.heap.size wr w2) : Sn w sb bm N V w2 := ⟨h.st.below hb, h.low.trans (hb.mono h.low.size), h.b0, h.b1⟩
theorem Sn.drewN (h : Sn w sb bm N V wr) (n : Nat) : Sn w sb bm N V (wr.drewN n) := ⟨h.st.drewN n, below_drewN h.low n, h.b0, h.b1⟩
theorem kmax {N : Nat} (h : N ≤ 1000000) : N < maxLen := by unfold maxLen; omega
theorem sn_new (w wr : World) (hb : Below w.heap.size w wr) : Calls Try.prog 12 #[] wr fun e w' => ∃ sb bm, e = .returned (.pointer (some ⟨sb, 0, none⟩)) ∧ Sn w sb bm 0 Kv.new w' ∧ wr.heap.size ≤ sb ∧ wr.heap.size ≤ bm ∧ Below wr.heap.size wr w' :=
  (snew_any wr).mono fun _ _ ⟨sb, bm, he, hc, h0, h1, h2⟩ => ⟨sb, bm, he, ⟨hc, hb.trans (h2.mono hb.size), Nat.le_trans hb.size h0, Nat.le_trans hb.size h1⟩, h0, h1, h2⟩
theorem Sn.apply (h : Sn w sb bm N V wr) (hN : N ≤ 1000000) (kd p v : Int) :
    Calls Try.prog 14 #[.pointer (some ⟨sb, 0, none⟩), .agg #[.int .i64 kd, .int .i64 p, .int .i64 v]] wr fun e w' => e = .returned (.int .i64 (storeS V kd p v).1) ∧ Sn w sb bm (N + 1) (storeS V kd p v).2 w' ∧ Turn (fun k => k = bm) wr w' :=
  (sapply_any h.st (kmax hN) kd p v).mono fun _ _ ⟨he, hc, ht⟩ => ⟨he, ⟨hc, h.turned ht (fun _ hk => hk), h.b0, h.b1⟩, ht⟩
/-- An operation whose answer is known. -/
theorem Sn.does {U : Kv} {r : Int} (h : Sn w sb bm N V wr) (hN : N ≤ 1000000) {kd p v : Int} (hs : storeS V kd p v = (r, U)) :
    Calls Try.prog 14 #[.pointer (some ⟨sb, 0, none⟩), .agg #[.int .i64 kd, .int .i64 p, .int .i64 v]] wr fun e w' => e = .returned (.int .i64 r) ∧ Sn w sb bm (N + 1) U w' ∧ Turn (fun k => k = bm) wr w' := by
  have := h.apply hN kd p v
  rw [hs] at this
  exact this
theorem Sn.get (h : Sn w sb bm N V wr) {p : Int} (hp : fit p) :
    Calls Try.prog 15 #[.pointer (some ⟨sb, 0, none⟩), .int .i64 p] wr fun e w' => e = .returned (.tuple #[.int .i64 (V.val p), .bool (V p).isSome]) ∧ wr = w' := sget_any h.st hp
theorem Sn.len (h : Sn w sb bm N V wr) : Calls Try.prog 22 #[.pointer (some ⟨sb, 0, none⟩)] wr fun e w' => e = .returned (.int .i64 V.all.length) ∧ wr = w' := slen_any h.st
end
theorem st_put {V : Kv} {p v : Int} (hp : 0 ≤ p ∧ p < 64) (hv : -2147483648 < v ∧ v < 2147483648) : storeS V 1 p v = (V.val p, V.put p v) := by
  have hm : mayOp p v = true := decide_eq_true ⟨hp.1, hp.2, hv.1, hv.2⟩
  unfold storeS
  simp [hm]
theorem st_get {V : Kv} {p v : Int} (hp : 0 ≤ p ∧ p < 64) (hv : -2147483648 < v ∧ v < 2147483648) : storeS V 2 p v = (V.val p, V) := by
  have hm : mayOp p v = true := decide_eq_true ⟨hp.1, hp.2, hv.1, hv.2⟩
  unfold storeS
  simp [hm]
theorem st_add {V : Kv} {p v : Int} (hp : 0 ≤ p ∧ p < 64) (hv : -2147483648 < v ∧ v < 2147483648) (hr : -2147483648 < V.val p + v ∧ V.val p + v < 2147483648) : storeS V 3 p v = (V.val p + v, V.put p (V.val p + v)) := by
  have hm : mayOp p v = true := decide_eq_true ⟨hp.1, hp.2, hv.1, hv.2⟩
  unfold storeS
  simp [hm, hr]
theorem st_add_out {V : Kv} {p v : Int} (hp : 0 ≤ p ∧ p < 64) (hv : -2147483648 < v ∧ v < 2147483648) (hr : ¬ (-2147483648 < V.val p + v ∧ V.val p + v < 2147483648)) : storeS V 3 p v = (V.val p, V) := by
  have hm : mayOp p v = true := decide_eq_true ⟨hp.1, hp.2, hv.1, hv.2⟩
  unfold storeS
  simp only [hm, if_neg hr]
  simp
theorem st_del {V : Kv} {p v : Int} (hp : 0 ≤ p ∧ p < 64) (hv : -2147483648 < v ∧ v < 2147483648) : storeS V 4 p v = (V.val p, V.del p) := by
  have hm : mayOp p v = true := decide_eq_true ⟨hp.1, hp.2, hv.1, hv.2⟩
  unfold storeS
  simp [hm]
theorem st_sum {V : Kv} {p v : Int} (hp : 0 ≤ p ∧ p < 64) (hv : -2147483648 < v ∧ v < 2147483648) : storeS V 5 p v = (V.sum, V) := by
  have hm : mayOp p v = true := decide_eq_true ⟨hp.1, hp.2, hv.1, hv.2⟩
  unfold storeS
  simp [hm]
theorem Kv.val_new (p : Int) : Kv.new.val p = 0 := rfl
theorem Kv.val_put (V : Kv) (p v : Int) : (V.put p v).val p = v := by unfold Kv.val; rw [Kv.put_same]; rfl
theorem Kv.val_del (V : Kv) (p : Int) : (V.del p).val p = 0 := by unfold Kv.val; rw [Kv.del_same]; rfl
theorem Kv.put_put (V : Kv) (p v u : Int) : (V.put p v).put p u = V.put p u := by
  funext q
  by_cases e : q = p
  · subst e; rw [Kv.put_same, Kv.put_same]
  · rw [Kv.put_other _ e, Kv.put_other _ e, Kv.put_other _ e]
theorem Kv.del_put (V : Kv) (p v : Int) : (V.put p v).del p = V.del p := by
  funext q
  by_cases e : q = p
  · subst e; rw [Kv.del_same, Kv.del_same]
  · rw [Kv.del_other _ e, Kv.put_other _ e, Kv.del_other _ e]
theorem Kv.del_new (p : Int) : Kv.new.del p = Kv.new := by
  funext q
  by_cases e : q = p
  · subst e; rw [Kv.del_same]; rfl
  · rw [Kv.del_other _ e]
theorem Kv.upTo_new : ∀ n : Nat, Kv.new.upTo n = []
  | 0 => rfl
  | n + 1 => by rw [Kv.upTo_none rfl, Kv.upTo_new n]
theorem Kv.all_new : Kv.new.all = [] := Kv.upTo_new 64
theorem Kv.sum_one {p v : Int} (hp : 0 ≤ p ∧ p < 64) : (Kv.new.put p v).sum = v := by
  obtain ⟨k, rfl⟩ := Int.eq_ofNat_of_zero_le hp.1
  unfold Kv.sum
  rw [Kv.sumTo_put, if_pos (by omega), Kv.sumTo_new, Kv.val_new]
  omega
theorem Kv.all_one {p v : Int} (hp : 0 ≤ p ∧ p < 64) : (Kv.new.put p v).all.length = 1 := by
  rw [Kv.all_len_put hp, Kv.all_new]
  rfl
set_option maxHeartbeats 2000000 in
theorem wakes10_any (w : World) : Calls Try.prog 13 #[] w fun e w' => e = .returned (.bool true) ∧ Below w.heap.size w w' := by
  have E1 := Lib.hid (show storeS Kv.new 1 1 5 = (0, Kv.new.put 1 5) from st_put (by omega) (by omega))
  have E2 := Lib.hid (show storeS (Kv.new.put 1 5) 3 1 2 = (7, Kv.new.put 1 7) from by
    rw [st_add (by omega) (by omega) (by rw [Kv.val_put]; omega), Kv.val_put, Kv.put_put]
    rfl)
  have E3 := Lib.hid (show storeS (Kv.new.put 1 7) 5 0 0 = (7, Kv.new.put 1 7) from by rw [st_sum (by omega) (by omega), Kv.sum_one (by omega)])
  have E4 := Lib.hid (show storeS (Kv.new.put 1 7) 4 1 0 = (7, Kv.new) from by rw [st_del (by omega) (by omega), Kv.val_put, Kv.del_put, Kv.del_new])
  have E5 := Lib.hid Kv.all_new
  go_enter Try.func13, Try.ntmps13
  go_wp2_with fail
  refine (sn_new w _ (Below.refl _ _)).mono ?_
  rintro e w1 ⟨sb, bm, rfl, h1, _, _, _⟩
  have H1 := Lib.hid h1
  clear h1
  go_wp2_with fail
  refine (H1.out.does (by omega) E1.out).mono ?_
  rintro e w2 ⟨rfl, h2, _⟩
  have H2 := Lib.hid h2
  clear h2
  go_wp2_with fail
  refine (H2.out.does (by omega) E2.out).mono ?_
  rintro e w3 ⟨rfl, h3, _⟩
  have H3 := Lib.hid h3
  clear h3
  go_wp2_with fail
  refine (H3.out.does (by omega) E3.out).mono ?_
  rintro e w4 ⟨rfl, h4, _⟩
  have H4 := Lib.hid h4
  clear h4
  go_wp2_with fail
  refine (H4.out.does (by omega) E4.out).mono ?_
  rintro e w5 ⟨rfl, h5, _⟩
  have H5 := Lib.hid h5
  clear h5
  go_wp2_with fail
  refine H5.out.len.mono ?_
  rintro e w6 ⟨rfl, rfl⟩
  rw [E5.out]
  go_wp2_with fail
  go_ret
  exact ⟨rfl, H5.out.low⟩
end Go.Proofs.Ytnbmhcgalpnmeaa
