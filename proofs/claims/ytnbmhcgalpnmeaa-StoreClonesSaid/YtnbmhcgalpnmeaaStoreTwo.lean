/- Package store: two stores made since w. -/
import Derived.Test.YtnbmhcgalpnmeaaStoreOne
namespace Go.Proofs.Ytnbmhcgalpnmeaa
open Go.RowKit Go.Maps

structure S2 (w : World) (sb bm N : Nat) (V : Kv) (tb tm M : Nat) (U : Kv) (wr : World) : Prop where
  s : Sn w sb bm N V wr
  t : Sn w tb tm M U wr
  a1 : bm ≠ tm
  a2 : bm ≠ tb
  a3 : tm ≠ sb
section
variable {w wr : World} {sb bm N tb tm M : Nat} {V U : Kv}
theorem S2.low (h : S2 w sb bm N V tb tm M U wr) : Below w.heap.size w wr := h.s.low
theorem S2.below {w2 : World} (h : S2 w sb bm N V tb tm M U wr) (hb : Below wr.heap.size wr w2) : S2 w sb bm N V tb tm M U w2 := ⟨h.s.below hb, h.t.below hb, h.a1, h.a2, h.a3⟩
theorem S2.drewN (h : S2 w sb bm N V tb tm M U wr) (n : Nat) : S2 w sb bm N V tb tm M U (wr.drewN n) := ⟨h.s.drewN n, h.t.drewN n, h.a1, h.a2, h.a3⟩
/-- A second store beside the first. -/
theorem S2.new (h : Sn w sb bm N V wr) : Calls Try.prog 12 #[] wr fun e w' => ∃ tb tm, e = .returned (.pointer (some ⟨tb, 0, none⟩)) ∧ S2 w sb bm N V tb tm 0 Kv.new w' :=
  (sn_new w wr h.low).mono fun _ _ ⟨tb, tm, he, ht, h0, h1, hb⟩ => ⟨tb, tm, he, h.below hb, ht, by have := h.st.lt; omega, by have := h.st.lt; omega, by have := h.st.lt; omega⟩
/-- A clone beside the first. -/
theorem S2.clone (h : Sn w sb bm N V wr) : Calls Try.prog 19 #[.pointer (some ⟨sb, 0, none⟩)] wr fun e w' => ∃ tb tm, e = .returned (.pointer (some ⟨tb, 0, none⟩)) ∧ S2 w sb bm N V tb tm N V w' :=
  (sclone_any h.st).mono fun _ _ ⟨tb, tm, he, ht, h0, h1, hb⟩ => ⟨tb, tm, he, h.below hb, ⟨ht, h.low.trans (hb.mono h.low.size), Nat.le_trans h.low.size h0, Nat.le_trans h.low.size h1⟩, by have := h.st.lt; omega, by have := h.st.lt; omega, by have := h.st.lt; omega⟩
theorem S2.left (h : S2 w sb bm N V tb tm M U wr) (hN : N ≤ 1000000) (kd p v : Int) :
    Calls Try.prog 14 #[.pointer (some ⟨sb, 0, none⟩), .agg #[.int .i64 kd, .int .i64 p, .int .i64 v]] wr fun e w' => e = .returned (.int .i64 (storeS V kd p v).1) ∧ S2 w sb bm (N + 1) (storeS V kd p v).2 tb tm M U w' ∧ Turn (fun k => k = bm) wr w' :=
  (h.s.apply hN kd p v).mono fun _ _ ⟨he, hs, ht⟩ => ⟨he, ⟨hs, ⟨h.t.st.kept ht (fun e => h.a2 e.symm) (fun e => h.a1 e.symm), hs.low, h.t.b0, h.t.b1⟩, h.a1, h.a2, h.a3⟩, ht⟩
theorem S2.right (h : S2 w sb bm N V tb tm M U wr) (hM : M ≤ 1000000) (kd p v : Int) :
    Calls Try.prog 14 #[.pointer (some ⟨tb, 0, none⟩), .agg #[.int .i64 kd, .int .i64 p, .int .i64 v]] wr fun e w' => e = .returned (.int .i64 (storeS U kd p v).1) ∧ S2 w sb bm N V tb tm (M + 1) (storeS U kd p v).2 w' ∧ Turn (fun k => k = tm) wr w' :=
  (h.t.apply hM kd p v).mono fun _ _ ⟨he, hs, ht⟩ => ⟨he, ⟨⟨h.s.st.kept ht (fun e => h.a3 e.symm) (fun e => h.a1 e), hs.low, h.s.b0, h.s.b1⟩, hs, h.a1, h.a2, h.a3⟩, ht⟩
end
end Go.Proofs.Ytnbmhcgalpnmeaa
