/- The statement PropPlays: whatever the input, the law returns true, and each argument reads afterwards as it read before. Ahead of it: the document's table, its calls, the law's do and right, the walk. -/
import Derived.Test.YtbpefdnlldpjiaaPropOne
import Derived.Test.YtbpefdnlldpjiaaRefRows
import Derived.Test.YtbpefdnlldpjiaaRefBallot
import Derived.BigQuiet
import Derived.Test.YtbpefdnlldpjiaaApps
import Derived.Test.YtbpefdnlldpjiaaPropDel
import Derived.Test.YtbpefdnlldpjiaaPropRow
import Derived.Test.YtbpefdnlldpjiaaRefComp
import Derived.Deep.RegionLaw
import Derived.Maps.AppendAt
import Derived.StillTailTactics
import Derived.IntWalk
import Derived.Laws.OwnMore
import Derived.Test.YtbpefdnlldpjiaaActs13
import Derived.Test.YtbpefdnlldpjiaaWithin
import Derived.Test.YtbpefdnlldpjiaaSameVotes
import Derived.Test.YtbpefdnlldpjiaaSameCerts
import Derived.Test.YtbpefdnlldpjiaaRows
import Derived.ProofKit
import Derived.OpenShut
import Derived.ShutString
import Derived.ChangeOld
namespace Go.Proofs.Ytbpefdnlldpjiaa
open Go.RowKit Go.Sort
set_option linter.unusedSimpArgs false

/-- A row of the document's table: the program's row that it stands for, its nodes, where they lie, its clock. -/
structure Td where
  x : Tr
  ns : List Int
  nv : Value
  sc : Int
def Td.cells (d : Td) : List Value := [.int .i64 d.x.rq.cl, .int .i64 d.x.rq.tm, .int .i64 d.x.rq.kd, .int .i64 d.x.rq.ky, .int .i64 d.x.rq.vl, .int .i64 d.x.rq.sg, d.nv, .int .i64 d.sc]
def tdCells (D : List Td) : List Value := D.flatMap Td.cells
def trs (D : List Td) : List Tr := D.map Td.x
def ints (ns : List Int) : List Value := ns.map (Value.int .i64)
/-- It tells of its nodes and of its clock what the program's row tells. -/
structure Td.Ok (f : Int) (d : Td) : Prop where
  len : cnt d.x.bs = d.ns.length
  mem : ∀ z, decide (z ∈ d.ns) = marked d.x.bs z
  sc : isReady f d.x = true → d.sc = d.x.sc
structure Pw (w : World) (pb : Nat) (f n : Int) (v : Value) (D : List Td) : Prop where
  blk : Blk w pb 46 #[.int .i64 f, .int .i64 n, v]
  row : w.ownsRow 0 75 8 v D.length (tdCells D)
  nod : ∀ d ∈ D, w.ownsRow 0 3 1 d.nv d.ns.length (ints d.ns)
  ok : ∀ d ∈ D, d.Ok f
  fine : Fine f n (trs D)
theorem tdCells_app (l m : List Td) : tdCells (l ++ m) = tdCells l ++ tdCells m := List.flatMap_append
theorem tdCells_len (D : List Td) : (tdCells D).length = D.length * 8 := by
  induction D with
  | nil => rfl
  | cons d D ih => show (d.cells ++ tdCells D).length = _; rw [List.length_append, ih]; show 8 + _ = (_ + 1) * 8; omega
theorem trs_len (D : List Td) : (trs D).length = D.length := by simp [trs]
theorem trs_get {D : List Td} {k : Nat} {d : Td} (h : D[k]? = some d) : (trs D)[k]? = some d.x := by simp [trs, h]
/-- A row's cells, at its place. -/
structure TdAt (w : World) (ad : Addr) (k : Nat) (d : Td) : Prop where
  c0 : w.cell? (ad.add (k * 8)) = some (.int .i64 d.x.rq.cl)
  c1 : w.cell? ⟨(ad.add (k * 8)).block, (ad.add (k * 8)).off + 1, none⟩ = some (.int .i64 d.x.rq.tm)
  c2 : w.cell? ⟨(ad.add (k * 8)).block, (ad.add (k * 8)).off + 2, none⟩ = some (.int .i64 d.x.rq.kd)
  c3 : w.cell? ⟨(ad.add (k * 8)).block, (ad.add (k * 8)).off + 3, none⟩ = some (.int .i64 d.x.rq.ky)
  c4 : w.cell? ⟨(ad.add (k * 8)).block, (ad.add (k * 8)).off + 4, none⟩ = some (.int .i64 d.x.rq.vl)
  c5 : w.cell? ⟨(ad.add (k * 8)).block, (ad.add (k * 8)).off + 5, none⟩ = some (.int .i64 d.x.rq.sg)
  c6 : w.cell? ⟨(ad.add (k * 8)).block, (ad.add (k * 8)).off + 6, none⟩ = some d.nv
  c7 : w.cell? ⟨(ad.add (k * 8)).block, (ad.add (k * 8)).off + 7, none⟩ = some (.int .i64 d.sc)
theorem td_at {w : World} {B : Nat} {A : Option Addr} {D : List Td} (h : Has w B A (tdCells D)) {k : Nat} (hk : k < D.length) : ∃ ad, A = some ad ∧ ad.block < B ∧ TdAt w ad k D[k] := by
  obtain ⟨ad, e, hb, hc⟩ := h.thing (f := Td.cells) (s := 8) (fun _ => rfl) (by omega) hk
  refine ⟨ad, e, hb, ⟨hc 0 _ rfl, ?_, ?_, ?_, ?_, ?_, ?_, ?_⟩⟩
  · rw [← add_pos _ _ _ (by omega)]; exact hc 1 _ rfl
  · rw [← add_pos _ _ _ (by omega)]; exact hc 2 _ rfl
  · rw [← add_pos _ _ _ (by omega)]; exact hc 3 _ rfl
  · rw [← add_pos _ _ _ (by omega)]; exact hc 4 _ rfl
  · rw [← add_pos _ _ _ (by omega)]; exact hc 5 _ rfl
  · rw [← add_pos _ _ _ (by omega)]; exact hc 6 _ rfl
  · rw [← add_pos _ _ _ (by omega)]; exact hc 7 _ rfl
section
variable {w w' : World} {pb : Nat} {v : Value} {f n : Int} {D : List Td}
theorem turn_own_blk {Z : Nat → Prop} {b m s : Nat} {e : TypeId} {u : Value} {xs : List Value} (h : w.ownsRow b e s u m xs) (ht : Turn Z w w') (hz : ∀ k cs, Blk w k e cs → ¬ Z k) : w'.ownsRow b e s u m xs := by
  refine ht.own h fun g hg => ?_
  rcases h.2 with ⟨rfl, _⟩ | ⟨g', cap, cur, rfl, _, hh, _⟩
  · cases hg
  · have : g' = g := Option.some.inj hg
    subst this
    exact hz g' cur hh
theorem Pw.kept {Z : Nat → Prop} (h : Pw w pb f n v D) (ht : Turn Z w w') (hp : ¬ Z pb) (hz1 : ∀ k cs, Blk w k 75 cs → ¬ Z k) (hz2 : ∀ k cs, Blk w k 3 cs → ¬ Z k) : Pw w' pb f n v D :=
  ⟨ht.blk h.blk hp, turn_own_blk h.row ht hz1, fun d hd => turn_own_blk (h.nod d hd) ht hz2, h.ok, h.fine⟩
theorem Pw.below (h : Pw w pb f n v D) (hb : Below w.heap.size w w') : Pw w' pb f n v D := h.kept (Turn.of_below (Z := fun _ => False) hb) id (fun _ _ _ => id) (fun _ _ _ => id)
theorem Pw.drewN (h : Pw w pb f n v D) (m : Nat) : Pw (w.drewN m) pb f n v D := h.below ⟨rfl, rfl, rfl, Nat.le_refl _, fun _ _ => rfl⟩
theorem Pw.post {tb : Nat} {u : Value} {L L' : List Tr} (h : Pw w pb f n v D) (ht : Tb w tb u f n L) (hp : TbPost w tb u f n L' w') : Pw w' pb f n v D := by
  obtain ⟨v', _, _, hT⟩ := hp
  exact h.kept hT (ht.off h.blk (by decide) (by decide)) (fun k cs hk => ht.off hk (by decide) (by decide)) (fun k cs hk => ht.off hk (by decide) (by decide))
theorem Pw.other {qb : Nat} {cs : Array Value} (h : Pw w pb f n v D) (hq : Blk w qb 46 cs) (hne : pb ≠ qb) (ht : Turn (fun k => k = qb) w w') : Pw w' pb f n v D :=
  h.kept ht hne (fun k cs hk e => by subst e; exact hk.ne_ hq (by decide) rfl) (fun k cs hk e => by subst e; exact hk.ne_ hq (by decide) rfl)
theorem Pw.has (h : Pw w pb f n v D) : ∃ A c, v = .slice A D.length c ∧ D.length ≤ c ∧ c ≤ maxLen ∧ Has w w.heap.size A (tdCells D) := by
  obtain ⟨A, c, rfl, h1, h2⟩ := own_slice h.row
  exact ⟨A, c, rfl, h1, h2, has_rows h.row⟩
theorem Pw.most (h : Pw w pb f n v D) : D.length ≤ 16 := by
  have := h.fine.most
  rwa [trs_len] at this
end
/-! ### has, Find -/
def findT (L : List Tr) (r : Rq) : Int := if had L r = true then (seat L r : Int) else -1
set_option maxHeartbeats 1000000 in
theorem ihas_any (A : Option Addr) (c : Nat) (zs : List Int) (z : Int) (B : Nat) (w : World) (hl : zs.length ≤ 1000000) (h1 : Has w B A (ints zs)) :
    Calls Try.prog 50 #[.slice A zs.length c, .int .i64 z] w fun e w' => e = .returned (.bool (decide (z ∈ zs))) ∧ w = w' := by
  have H1 := Lib.hid h1
  obtain ⟨n, hn⟩ : ∃ n, zs.length = n := ⟨_, rfl⟩
  rw [hn] at hl ⊢
  have HN := Lib.hid hn
  clear h1 hn
  go_enter Try.func50, Try.ntmps50
  go_wp2_with fail
  go_loopw [5] (fun x wr => ∃ (k : Nat), x = .int .i64 k ∧ k ≤ n ∧ Hid (w = wr) ∧ Hid (z ∉ zs.take k)) (fun x _ => n - (intOf x).toNat)
  case atStart => exact ⟨0, rfl, Nat.zero_le _, rfl, (show _ ∉ _ by simp)⟩
  case round =>
    obtain ⟨k, rfl, hk, HW, HT⟩ := hrel
    obtain rfl := HW.out
    by_cases hlt : k < n
    · have hkl : k < zs.length := by rw [HN.out]; exact hlt
      obtain ⟨ad, x, rfl, hab, c0, hdr, -⟩ := H1.out.int hkl
      have HX := Lib.hid (show zs[k]? = some x by have := congrArg List.head? hdr; simpa using this)
      have hki : (k : Int) < (n : Int) := by omega
      clear hdr hkl
      by_cases e : x = z
      · have g1 : (x == z) = true := by simpa using e
        have HD := Lib.hid (show decide (z ∈ zs) = true from decide_eq_true (e ▸ List.mem_of_getElem? HX.out))
        clear e
        go_wp2_with fail
        go_ret
        exact ⟨by rw [HD.out]; rfl, rfl⟩
      · have g1 : (x == z) = false := by simpa using e
        have HT2 := Lib.hid (show z ∉ zs.take (k + 1) by
          rw [List.take_add_one, HX.out]
          simp only [Option.toList_some, List.mem_append, List.mem_singleton]
          rintro (h | h)
          · exact HT.out h
          · exact e h.symm)
        clear e
        go_wp2_with fail
        go_roundw
        case rel => exact ⟨k + 1, by go_num, by omega, trivial, HT2.out⟩
        case measure => simp [intOf]; omega
    · obtain rfl : k = n := by omega
      have HD := Lib.hid (show decide (z ∈ zs) = false from decide_eq_false (by have := HT.out; rwa [List.take_of_length_le (by rw [HN.out]; exact Nat.le_refl _)] at this))
      go_wp2_with fail
      go_ret
      exact ⟨by rw [HD.out]; rfl, rfl⟩
set_option maxHeartbeats 1000000 in
theorem qfind_any {w : World} {pb : Nat} {v : Value} {f n : Int} {D : List Td} (h : Pw w pb f n v D) (r : Rq) :
    Calls Try.prog 48 #[.pointer (some ⟨pb, 0, none⟩), .agg #[.int .i64 r.cl, .int .i64 r.tm, .int .i64 r.kd, .int .i64 r.ky, .int .i64 r.vl, .int .i64 r.sg]] w fun e w' => e = .returned (.int .i64 (findT (trs D) r)) ∧ Below w.heap.size w w' := by
  have HB := Lib.hid (show Below w.heap.size w (w.alloc (.cells #[.int .i64 r.cl, .int .i64 r.tm, .int .i64 r.kd, .int .i64 r.ky, .int .i64 r.vl, .int .i64 r.sg] 25)) from (Below.refl _ _).alloc (Nat.le_refl _) _)
  have HX := Lib.hid (show Blk (w.alloc (.cells #[.int .i64 r.cl, .int .i64 r.tm, .int .i64 r.kd, .int .i64 r.ky, .int .i64 r.vl, .int .i64 r.sg] 25)) w.heap.size 25 #[.int .i64 r.cl, .int .i64 r.tm, .int .i64 r.kd, .int .i64 r.ky, .int .i64 r.vl, .int .i64 r.sg] from Blk.new _ _ _)
  have HP := Lib.hid (h.below HB.out)
  have hm := h.most
  clear h
  obtain ⟨A, c, rfl, _, _, _⟩ := HP.out.has
  go_enter Try.func48, Try.ntmps48
  go_wp2_with fail
  obtain ⟨w1, hw1⟩ : ∃ w1, w.alloc (.cells #[.int .i64 r.cl, .int .i64 r.tm, .int .i64 r.kd, .int .i64 r.ky, .int .i64 r.vl, .int .i64 r.sg] 25) = w1 := ⟨_, rfl⟩
  rw [hw1] at HB HX HP ⊢
  clear hw1
  obtain ⟨g, hg⟩ : ∃ g, w.heap.size = g := ⟨_, rfl⟩
  have HG := Lib.hid hg
  rw [hg] at HX ⊢
  clear hg
  obtain ⟨n0, hn0⟩ : ∃ n0, D.length = n0 := ⟨_, rfl⟩
  have HN := Lib.hid hn0
  rw [hn0] at hm HP
  clear hn0
  go_loopw [5] (fun x wr => ∃ (k m : Nat), x = .int .i64 k ∧ k ≤ n0 ∧ Hid (wr = w1.drewN m) ∧ Hid (r ∉ (rqs (trs D)).take k)) (fun x _ => n0 - (intOf x).toNat)
  case atStart => exact ⟨0, 0, rfl, Nat.zero_le _, rfl, (show _ ∉ _ by simp)⟩
  case round =>
    obtain ⟨k, m, rfl, hk, HW, HT⟩ := hrel
    have HPw : Pw wr pb f n (.slice A n0 c) D := by rw [HW.out]; exact HP.out.drewN m
    have q2 := HPw.blk.cell 2
    simp only [List.getElem?_toArray, List.getElem?_cons_zero, List.getElem?_cons_succ] at q2
    by_cases hlt : k < n0
    · have hkl : k < D.length := by rw [HN.out]; exact hlt
      obtain ⟨A', c', e', _, _, hh⟩ := HPw.has
      injection e' with e1 e2 e3
      subst e1
      obtain ⟨ad, rfl, _, hR⟩ := td_at hh hkl
      obtain ⟨d, hd⟩ : ∃ d, D[k] = d := ⟨_, rfl⟩
      rw [hd] at hR
      have HD := Lib.hid (show D[k]? = some d by rw [← hd]; exact List.getElem?_eq_getElem hkl)
      obtain ⟨c0, c1, c2, c3, c4, c5, -, -⟩ := hR
      obtain ⟨x, hx⟩ : ∃ x, d.x.rq = x := ⟨_, rfl⟩
      rw [hx] at c0 c1 c2 c3 c4 c5
      have HXk := Lib.hid hx
      have hb : Blk wr g 25 #[.int .i64 r.cl, .int .i64 r.tm, .int .i64 r.kd, .int .i64 r.ky, .int .i64 r.vl, .int .i64 r.sg] := by rw [HW.out]; exact HX.out.drewN m
      have d0 := hb.cell 0
      have d1 := hb.cell 1
      have d2 := hb.cell 2
      have d3 := hb.cell 3
      have d4 := hb.cell 4
      have d5 := hb.cell 5
      simp only [List.getElem?_toArray, List.getElem?_cons_zero, List.getElem?_cons_succ] at d0 d1 d2 d3 d4 d5
      have hki : (k : Int) < (n0 : Int) := by omega
      clear hd hx hh hkl e2 e3 hb HPw
      have G := fun (w : World) => guard_req .eql (.tmp 22) (.tmp 23) #[.int .i64 x.cl, .int .i64 x.tm, .int .i64 x.kd, .int .i64 x.ky, .int .i64 x.vl, .int .i64 x.sg] #[.int .i64 r.cl, .int .i64 r.tm, .int .i64 r.kd, .int .i64 r.ky, .int .i64 r.vl, .int .i64 r.sg] w
      by_cases hxy : x = r
      · have E := fun (w : World) => eql_req (x := x) (y := r) (r := true) (by simp [hxy]) w
        have HS := Lib.hid (show findT (trs D) r = (k : Int) by
          unfold findT
          rw [if_pos (had_iff.2 ⟨d.x, List.mem_of_getElem? (trs_get HD.out), by rw [HXk.out, hxy]⟩), seat_mem HP.out.fine.ris (trs_get HD.out) (by rw [HXk.out, hxy])])
        clear hxy
        go_wp2_with fail
        go_quiet (fail)
        clear E G
        go_wp2_with fail
        go_ret
        exact ⟨by rw [HS.out]; rfl, HB.out.trans (by rw [HW.out]; exact ⟨rfl, rfl, rfl, Nat.le_refl _, fun _ _ => rfl⟩)⟩
      · have E := fun (w : World) => eql_req (x := x) (y := r) (r := false) (by simp [hxy]) w
        have HT2 := Lib.hid (show r ∉ (rqs (trs D)).take (k + 1) by
          rw [List.take_add_one, rqs_get (trs_get HD.out)]
          simp only [Option.toList_some, List.mem_append, List.mem_singleton]
          rintro (h | h)
          · exact HT.out h
          · exact hxy (by rw [h, HXk.out]))
        clear hxy
        go_wp2_with fail
        go_quiet (fail)
        clear E G
        go_wp2_with fail
        go_roundw
        case rel => exact ⟨k + 1, _, by go_num, by omega, (show _ = w1.drewN _ by rw [HW.out, World.drewN_drewN]), HT2.out⟩
        case measure => simp [intOf]; omega
    · obtain rfl : k = n0 := by omega
      have HS := Lib.hid (show findT (trs D) r = -1 from if_neg (by
        have := HT.out
        rw [List.take_of_length_le (by rw [rqs_len, trs_len, HN.out]; exact Nat.le_refl _)] at this
        unfold had
        simpa using this))
      clear HPw
      go_wp2_with fail
      go_ret
      exact ⟨by rw [HS.out]; rfl, HB.out.trans (by rw [HW.out]; exact ⟨rfl, rfl, rfl, Nat.le_refl _, fun _ _ => rfl⟩)⟩
theorem Pw.here {w : World} {pb : Nat} {v : Value} {f n : Int} {D : List Td} (h : Pw w pb f n v D) {r : Rq} (hr : had (trs D) r = true) : ∃ ad c d, v = .slice (some ad) D.length c ∧ seat (trs D) r < D.length ∧ D[seat (trs D) r]? = some d ∧ TdAt w ad (seat (trs D) r) d ∧ d.x = rowOf (trs D) r := by
  obtain ⟨x, h1, _, h3⟩ := had_at h.fine.ris hr
  obtain ⟨A, c, rfl, _, _, hh⟩ := h.has
  obtain ⟨hk, _⟩ := List.getElem?_eq_some_iff.1 h1
  rw [trs_len] at hk
  obtain ⟨ad, rfl, _, hR⟩ := td_at hh hk
  have hd : D[seat (trs D) r]? = some D[seat (trs D) r] := List.getElem?_eq_getElem hk
  have := trs_get hd
  rw [h1] at this
  injection this with this
  exact ⟨ad, c, D[seat (trs D) r], rfl, hk, hd, hR, by rw [← this, h3]⟩
set_option maxHeartbeats 1000000 in
theorem qhas_any {w : World} {pb : Nat} {v : Value} {f n : Int} {D : List Td} (h : Pw w pb f n v D) (r : Rq) (nd : Int) :
    Calls Try.prog 34 #[.pointer (some ⟨pb, 0, none⟩), .agg #[.int .i64 r.cl, .int .i64 r.tm, .int .i64 r.kd, .int .i64 r.ky, .int .i64 r.vl, .int .i64 r.sg], .int .i64 nd] w fun e w' => e = .returned (.bool (hasT (trs D) r nd)) ∧ Below w.heap.size w w' := by
  have HB0 := Lib.hid (show Below w.heap.size w (w.alloc (.cells #[.int .i64 r.cl, .int .i64 r.tm, .int .i64 r.kd, .int .i64 r.ky, .int .i64 r.vl, .int .i64 r.sg] 25)) from (Below.refl _ _).alloc (Nat.le_refl _) _)
  have HT := Lib.hid (h.below HB0.out)
  have HF := Lib.hid (qfind_any HT.out r)
  have hm := h.most
  clear h
  cases hb : had (trs D) r
  · have hz : findT (trs D) r = -1 := if_neg (by rw [hb]; simp)
    rw [hz] at HF
    have HD := Lib.hid (show hasT (trs D) r nd = false by unfold hasT; rw [hb]; rfl)
    clear hb hz
    go_enter Try.func34, Try.ntmps34
    go_wp2_with fail
    refine HF.out.mono ?_
    rintro e w2 ⟨rfl, hb2⟩
    have HB2 := Lib.hid (HB0.out.trans (hb2.mono HB0.out.size))
    clear hb2
    go_wp2_with fail
    go_ret
    exact ⟨by rw [HD.out]; rfl, HB2.out⟩
  · have hz : findT (trs D) r = (seat (trs D) r : Int) := if_pos hb
    rw [hz] at HF
    have HH := Lib.hid (fun (w2 : World) (hb2 : Below (w.alloc (.cells #[.int .i64 r.cl, .int .i64 r.tm, .int .i64 r.kd, .int .i64 r.ky, .int .i64 r.vl, .int .i64 r.sg] 25)).heap.size (w.alloc (.cells #[.int .i64 r.cl, .int .i64 r.tm, .int .i64 r.kd, .int .i64 r.ky, .int .i64 r.vl, .int .i64 r.sg] 25)) w2) => (HT.out.below hb2).here hb)
    have HD := Lib.hid (show hasT (trs D) r nd = marked (rowOf (trs D) r).bs nd by unfold hasT; rw [hb]; rfl)
    obtain ⟨k, hk⟩ : ∃ k, seat (trs D) r = k := ⟨_, rfl⟩
    rw [hk] at HF HH
    clear hb hz hk
    go_enter Try.func34, Try.ntmps34
    go_wp2_with fail
    refine HF.out.mono ?_
    rintro e w2 ⟨rfl, hb2⟩
    have HB2 := Lib.hid (HB0.out.trans (hb2.mono HB0.out.size))
    have HT2 := Lib.hid (HT.out.below hb2)
    obtain ⟨ad, c, d, rfl, hkl, hd, hR, hx⟩ := HH.out w2 hb2
    have q2 := HT2.out.blk.cell 2
    simp only [List.getElem?_toArray, List.getElem?_cons_zero, List.getElem?_cons_succ] at q2
    have hnod := HT2.out.nod d (List.mem_of_getElem? hd)
    have hok := HT2.out.ok d (List.mem_of_getElem? hd)
    have hns : d.ns.length ≤ 1000000 := by
      rw [← hok.len]
      exact Nat.le_trans (cnt_le _) (by rw [HT2.out.fine.len d.x (List.mem_of_getElem? (trs_get hd))]; omega)
    have c6 := hR.c6
    obtain ⟨A', c', hv', -, -⟩ := own_slice hnod
    rw [hv'] at c6 hnod
    have HM := Lib.hid (ihas_any A' c' d.ns nd _ w2 hns (has_rows hnod))
    rw [hok.mem nd, hx] at HM
    obtain ⟨n0, hn0⟩ : ∃ n0, D.length = n0 := ⟨_, rfl⟩
    rw [hn0] at hkl q2
    have hki : (k : Int) < (n0 : Int) := by omega
    have hk0 : (0 : Int) ≤ (k : Int) := by omega
    obtain ⟨b, hb⟩ : ∃ b, marked (rowOf (trs D) r).bs nd = b := ⟨_, rfl⟩
    rw [hb] at HM HD
    clear hb2 hR hns hn0 hb hnod hok hv' hx hd
    go_wp2_with fail
    refine HM.out.mono ?_
    rintro e w3 ⟨rfl, rfl⟩
    go_wp2_with fail
    go_ret
    exact ⟨by rw [HD.out]; rfl, HB2.out⟩
set_option maxHeartbeats 1000000 in
theorem qready_any {w : World} {pb : Nat} {v : Value} {f n : Int} {D : List Td} (h : Pw w pb f n v D) {k : Nat} {d : Td} (hd : D[k]? = some d) :
    Calls Try.prog 36 #[.pointer (some ⟨pb, 0, none⟩), .int .i64 k] w fun e w' => e = .returned (.bool (isReady f d.x)) ∧ Below w.heap.size w w' := by
  have hkl := (List.getElem?_eq_some_iff.1 hd).1
  have hm := h.most
  obtain ⟨A, c, rfl, _, _, hh⟩ := h.has
  obtain ⟨ad, rfl, _, hR⟩ := td_at hh hkl
  rw [(List.getElem?_eq_some_iff.1 hd).2] at hR
  have q2 := h.blk.cell 2
  have q0 := h.blk.cell 0
  simp only [List.getElem?_toArray, List.getElem?_cons_zero, List.getElem?_cons_succ] at q2 q0
  have hok := h.ok d (List.mem_of_getElem? hd)
  have HR := Lib.hid (show isReady f d.x = decide (f + 1 ≤ (d.ns.length : Int)) by unfold isReady; rw [hok.len])
  have c6 := hR.c6
  obtain ⟨A', c', hv', -, -⟩ := own_slice (h.nod d (List.mem_of_getElem? hd))
  rw [hv'] at c6
  have HWk := Lib.hid (fun w => rweak_any f w)
  rw [weakS_in h.fine.f1 h.fine.f4] at HWk
  obtain ⟨q, hq⟩ : ∃ q, d.ns.length = q := ⟨_, rfl⟩
  rw [hq] at c6 HR
  obtain ⟨n0, hn0⟩ : ∃ n0, D.length = n0 := ⟨_, rfl⟩
  rw [hn0] at hkl q2
  have hki : (k : Int) < (n0 : Int) := by omega
  clear h hd hR hh hok hv' hq hn0
  go_enter Try.func36, Try.ntmps36
  go_wp2_with fail
  have k0 : w.drew.cell? ⟨pb, 0, none⟩ = some (.int .i64 f) := q0
  have k2 : w.drew.cell? ⟨pb, 2, none⟩ = some (.slice (some ad) n0 c) := q2
  have k6 : w.drew.cell? ⟨(ad.add (k * 8)).block, (ad.add (k * 8)).off + 6, none⟩ = some (.slice A' q c') := c6
  go_region_held3 (fun w' => w'.cell? ⟨pb, 0, none⟩ = some (.int .i64 f) ∧ w'.cell? ⟨pb, 2, none⟩ = some (.slice (some ad) n0 c) ∧ w'.cell? ⟨(ad.add (k * 8)).block, (ad.add (k * 8)).off + 6, none⟩ = some (.slice A' q c')) (first | exact ⟨k0, k2, k6⟩ | go_keep)
    ((go_at_call 51; refine (HWk.out _).mono ?_; rintro e w3 ⟨rfl, rfl⟩))
  go_wp2_with fail
  go_ret
  exact ⟨by rw [HR.out]; rfl, ⟨rfl, rfl, rfl, Nat.le_refl _, fun _ _ => rfl⟩⟩
end Go.Proofs.Ytbpefdnlldpjiaa

namespace Go.Proofs.Ytbpefdnlldpjiaa
open Go.RowKit Go.Sort
set_option linter.unusedSimpArgs false

/-- A call that writes this table's own block alone. -/
def PwPost (w : World) (pb : Nat) (f n : Int) (D : List Td) (w' : World) : Prop := ∃ v', Pw w' pb f n v' D ∧ Turn (fun k => k = pb) w w'
theorem PwPost.same {w w' : World} {pb : Nat} {v : Value} {f n : Int} {D : List Td} (h : Pw w pb f n v D) (hb : Below w.heap.size w w') : PwPost w pb f n D w' := ⟨v, h.below hb, Turn.of_below hb⟩
theorem td_one (D : List Td) (h : ∀ d ∈ D, d.nv.oneCell' = true) : ∀ u ∈ tdCells D, u.oneCell' = true := by
  intro u hu
  obtain ⟨d, hd, hu⟩ := List.mem_flatMap.1 hu
  have := h d hd
  simp only [Td.cells, List.mem_cons, List.not_mem_nil, or_false] at hu
  rcases hu with rfl | rfl | rfl | rfl | rfl | rfl | rfl | rfl <;> first | rfl | exact this
theorem own_slice_one {w : World} {b n s : Nat} {e : TypeId} {v : Value} {xs : List Value} (h : w.ownsRow b e s v n xs) : v.oneCell' = true := by
  obtain ⟨A, c, rfl, _, _⟩ := own_slice h
  rfl
theorem info_td : (Try.prog.info? 75).map (fun i => (i.zero, i.size, i.bytes)) = some (some (.agg #[.int .i64 0, .int .i64 0, .int .i64 0, .int .i64 0, .int .i64 0, .int .i64 0, .slice none 0 0, .int .i64 0]), 8, 80) := by kernel_rfl
/-- Those that Drop keeps. -/
def dropD (D : List Td) (c t : Int) : List Td := D.filter fun d => !delT c t d.x
theorem trs_drop (D : List Td) (c t : Int) : trs (dropD D c t) = dropT (trs D) c t := by
  rw [dropT_is]
  unfold trs dropD
  rw [List.filter_map]
  rfl
structure Dl (w : World) (pb : Nat) (f n : Int) (v : Value) (D : List Td) (c t : Int) (k : Nat) (out : List Td) (u : Value) (wr : World) : Prop where
  own : wr.ownsRow w.heap.size 75 8 u out.length (tdCells out)
  low : Below w.heap.size w wr
  is : out = dropD (D.take k) c t
section
variable {w wr wz : World} {pb k : Nat} {f n c t : Int} {v u : Value} {D out : List Td} {d : Td}
theorem Dl.tab (h : Dl w pb f n v D c t k out u wr) (hp : Pw w pb f n v D) : Pw wr pb f n v D := hp.below h.low
theorem Dl.yes {u2 : Value} (h : Dl w pb f n v D c t k out u wr) (hd : D[k]? = some d) (hk : delT c t d.x = false) (ho : wz.ownsRow w.heap.size 75 8 u2 (out.length + 1) (tdCells out ++ tdCells [d])) (hb : Below w.heap.size w wz) : Dl w pb f n v D c t (k + 1) (out ++ [d]) u2 wz := by
  refine ⟨by rw [List.length_append, tdCells_app]; exact ho, hb, ?_⟩
  rw [List.take_add_one, hd, h.is]
  unfold dropD
  simp [List.filter_append, hk]
theorem Dl.no (h : Dl w pb f n v D c t k out u wr) (hd : D[k]? = some d) (hk : delT c t d.x = true) (hb : Below wr.heap.size wr wz) : Dl w pb f n v D c t (k + 1) out u wz := by
  refine ⟨below_own h.own hb (Nat.le_refl _), h.low.trans (hb.mono h.low.size), ?_⟩
  rw [List.take_add_one, hd, h.is]
  unfold dropD
  simp [List.filter_append, hk]
theorem Dl.len (h : Dl w pb f n v D c t k out u wr) : out.length ≤ k := by
  rw [h.is]
  exact Nat.le_trans (List.length_filter_le _ _) (by rw [List.length_take]; omega)
/-- The last store. -/
theorem Dl.done (h : Dl w pb f n v D c t k out u wr) (hp : Pw w pb f n v D) (hk : D.length ≤ k) : PwPost w pb f n (dropD D c t) (wr.setCell ⟨pb, 2, none⟩ u) := by
  have he : out = dropD D c t := by rw [h.is, List.take_of_length_le hk]
  subst he
  have hpr := hp.below h.low
  have hne : u.ownBlock ≠ some pb := own_blk_ne h.own hpr.blk (by decide)
  have hT : Turn (fun k => k = pb) w (wr.setCell ⟨pb, 2, none⟩ u) := (Turn.of_below h.low).set_ _ _ rfl
  refine ⟨u, ⟨hpr.blk.set_ 2 _, own_far (p := ⟨pb, 2, none⟩) (own_down h.own (Nat.zero_le _)) hne _, fun d hd => ?_, fun d hd => hp.ok d (List.mem_filter.1 hd).1, ?_⟩, hT⟩
  · have ho := hpr.nod d (List.mem_filter.1 hd).1
    exact own_far (p := ⟨pb, 2, none⟩) ho (own_blk_ne ho hpr.blk (by decide)) _
  · rw [trs_drop]
    exact hp.fine.drop c t
end
set_option maxHeartbeats 4000000 in
theorem qdrop_any {w : World} {pb : Nat} {v : Value} {f n : Int} {D : List Td} (h : Pw w pb f n v D) (cl tm : Int) :
    Calls Try.prog 35 #[.pointer (some ⟨pb, 0, none⟩), .int .i64 cl, .int .i64 tm] w fun e w' => e = .returned (.int .i64 ((D.length : Int) - ((dropD D cl tm).length : Int))) ∧ PwPost w pb f n (dropD D cl tm) w' := by
  obtain ⟨i0, hi0, hx0, hx1, hx2⟩ := info_parts info_td
  have HP := Lib.hid h
  have hm := h.most
  obtain ⟨A, c, rfl, _, _, hh⟩ := h.has
  have HH := Lib.hid hh
  have HO := Lib.hid (fun d hd => own_slice_one (h.nod d hd))
  obtain ⟨n0, hn0⟩ : ∃ n0, D.length = n0 := ⟨_, rfl⟩
  rw [hn0] at hm HP ⊢
  have HN := Lib.hid hn0
  clear h hh hn0
  go_enter Try.func35, Try.ntmps35
  go_wp2_with fail
  go_loopw [7, 8] (fun y x wr => ∃ (k : Nat) (out : List Td), x = .int .i64 k ∧ k ≤ n0 ∧ Hid (Dl w pb f n (.slice A n0 c) D cl tm k out y wr)) (fun _ x _ => n0 - (intOf x).toNat)
  case atStart => exact ⟨0, [], rfl, Nat.zero_le _, World.ownsRow_nil _ _ _ _, Below.refl _ _, rfl⟩
  case round =>
    obtain ⟨k, out, rfl, hk, HA⟩ := hrel
    have HT := Lib.hid (HA.out.tab HP.out)
    have q2 := HT.out.blk.cell 2
    simp only [List.getElem?_toArray, List.getElem?_cons_zero, List.getElem?_cons_succ] at q2
    by_cases hlt : k < n0
    · have hkL : k < D.length := by rw [HN.out]; exact hlt
      obtain ⟨ad, rfl, hab, hR⟩ := td_at (HH.out.below HA.out.low (Nat.le_refl _)) hkL
      have HX := Lib.hid (show D[k]? = some D[k] from List.getElem?_eq_getElem hkL)
      have HX1 := Lib.hid (HO.out _ (List.getElem_mem hkL))
      obtain ⟨d, hd⟩ : ∃ d, D[k] = d := ⟨_, rfl⟩
      rw [hd] at hR HX HX1
      obtain ⟨c0, c1, c2', c3, c4, c5, c6, c7⟩ := hR
      have hki : (k : Int) < (n0 : Int) := by omega
      clear hd hkL
      cases hdel : delT cl tm d.x
      · obtain ⟨Av, cv, rfl, -, -⟩ := own_slice HA.out.own
        have HLen := Lib.hid HA.out.len
        have HNw := Lib.hid (show Has (wr.alloc (.cells #[.int .i64 d.x.rq.cl, .int .i64 d.x.rq.tm, .int .i64 d.x.rq.kd, .int .i64 d.x.rq.ky, .int .i64 d.x.rq.vl, .int .i64 d.x.rq.sg, d.nv, .int .i64 d.sc] 75)) (wr.heap.size + 1) (some ⟨wr.heap.size, 0, none⟩) (tdCells [d]) from Has.fresh wr #[.int .i64 d.x.rq.cl, .int .i64 d.x.rq.tm, .int .i64 d.x.rq.kd, .int .i64 d.x.rq.ky, .int .i64 d.x.rq.vl, .int .i64 d.x.rq.sg, d.nv, .int .i64 d.sc] 75)
        have HB9 := Lib.hid (show Below wr.heap.size wr (wr.alloc (.cells #[.int .i64 d.x.rq.cl, .int .i64 d.x.rq.tm, .int .i64 d.x.rq.kd, .int .i64 d.x.rq.ky, .int .i64 d.x.rq.vl, .int .i64 d.x.rq.sg, d.nv, .int .i64 d.sc] 75)) from (Below.refl _ _).alloc (Nat.le_refl _) _)
        have HOw := Lib.hid (below_own HA.out.own HB9.out (Nat.le_refl _))
        have HOne := Lib.hid (td_one [d] (by simpa using HX1.out))
        have HM1 := Lib.hid (show out.length + 1 ≤ maxLen by have := HLen.out; unfold maxLen; omega)
        have HM2 := Lib.hid (show (out.length + 1) * 80 ≤ 140737488355328 by have := HLen.out; omega)
        have HM3 := Lib.hid (show w.heap.size ≤ (wr.alloc (.cells #[.int .i64 d.x.rq.cl, .int .i64 d.x.rq.tm, .int .i64 d.x.rq.kd, .int .i64 d.x.rq.ky, .int .i64 d.x.rq.vl, .int .i64 d.x.rq.sg, d.nv, .int .i64 d.sc] 75)).heap.size from Nat.le_trans HA.out.low.size HB9.out.size)
        have HDel := Lib.hid hdel
        have hone := HX1.out
        by_cases e : d.x.rq.cl = cl
        · have g1 : (d.x.rq.cl != cl) = false := by simpa using e
          have g2 : decide (tm < d.x.rq.tm) = true := by
            unfold delT at hdel
            rw [decide_eq_true e, Bool.true_and] at hdel
            have := of_decide_eq_false hdel
            exact decide_eq_true (by omega)
          clear e hdel
          go_wp2_with (at_builtin; refine wpList_apps rfl _ _ 44 rfl w.heap.size 75 i0 _ 8 80 Try.underlying44 hi0 hx0 hx1 hx2 rfl (by decide) _ _ _ rfl HOw.out _ (some ⟨wr.heap.size, 0, none⟩) 1 1 (tdCells [d]) rfl rfl HNw.out (fun h => nomatch h) HOne.out HM1.out HM2.out HM3.out ?_)
          intro v2 w9 ho hg _
          have HA2 := Lib.hid (HA.out.yes HX.out HDel.out ho ((HA.out.low.trans (HB9.out.mono HA.out.low.size)).grown hg HM3.out (fun k hk => (HOw.out.lt k hk).1)))
          clear ho hg
          go_wp2_with fail
          go_roundw
          case rel => exact ⟨k + 1, out ++ [d], by go_num, by omega, HA2.out⟩
          case measure => simp [intOf]; omega
        · have g1 : (d.x.rq.cl != cl) = true := by simpa using e
          clear e hdel
          go_wp2_with (at_builtin; refine wpList_apps rfl _ _ 44 rfl w.heap.size 75 i0 _ 8 80 Try.underlying44 hi0 hx0 hx1 hx2 rfl (by decide) _ _ _ rfl HOw.out _ (some ⟨wr.heap.size, 0, none⟩) 1 1 (tdCells [d]) rfl rfl HNw.out (fun h => nomatch h) HOne.out HM1.out HM2.out HM3.out ?_)
          intro v2 w9 ho hg _
          have HA2 := Lib.hid (HA.out.yes HX.out HDel.out ho ((HA.out.low.trans (HB9.out.mono HA.out.low.size)).grown hg HM3.out (fun k hk => (HOw.out.lt k hk).1)))
          clear ho hg
          go_wp2_with fail
          go_roundw
          case rel => exact ⟨k + 1, out ++ [d], by go_num, by omega, HA2.out⟩
          case measure => simp [intOf]; omega
      · have hd2 : d.x.rq.cl = cl ∧ d.x.rq.tm ≤ tm := by
          unfold delT at hdel
          simpa using hdel
        have g1 : (d.x.rq.cl != cl) = false := by simpa using hd2.1
        have g2 : decide (tm < d.x.rq.tm) = false := decide_eq_false (by omega)
        have HDel := Lib.hid hdel
        have HA2 := Lib.hid (HA.out.no HX.out HDel.out (Below.refl _ _))
        clear hd2 hdel
        go_wp2_with fail
        go_roundw
        case rel => exact ⟨k + 1, out, by go_num, by omega, HA2.out⟩
        case measure => simp [intOf]; omega
    · obtain rfl : k = n0 := by omega
      obtain ⟨Av, cv, rfl, -, -⟩ := own_slice HA.out.own
      have HZ := Lib.hid (HA.out.done HP.out (by rw [HN.out]; exact Nat.le_refl _))
      have HE := Lib.hid (show out = dropD D cl tm by rw [HA.out.is, List.take_of_length_le (by rw [HN.out]; exact Nat.le_refl _)])
      have HLen := Lib.hid HA.out.len
      have s2f : wr.frozen? ⟨pb, 2, none⟩ = false := HT.out.blk.frozen 2
      have hol : out.length ≤ k := HLen.out
      go_wp2_with fail
      go_ret
      exact ⟨by rw [← HE.out]; first | rfl | simp, HZ.out⟩
end Go.Proofs.Ytbpefdnlldpjiaa

namespace Go.Proofs.Ytbpefdnlldpjiaa
open Go.RowKit Go.Sort
set_option linter.unusedSimpArgs false

theorem int_info : (Try.prog.info? 3).map (fun i => (i.zero, i.size, i.bytes)) = some (some (.int .i64 0), 1, 8) := by kernel_rfl
def tailT (A : Option Addr) (c k : Nat) : Option Addr := if c = k then A else A.map fun x => x.add (k * 8)
set_option maxRecDepth 100000 in
theorem tslice_head {w : World} (A : Option Addr) {n c k : Nat} (h : k ≤ c) : (Instr.slice 44 (.slice A n c) none (some (.int .i64 k)) none).run Try.prog w = .ok (.slice A k c) w := by
  rw [run_slice_h w 44 A n c Try.underlying44 .i64 k (by omega) (by omega)]
  have : (sizeOf (Try.prog.elem 44)).run Try.prog w = .ok 8 w := by kernel_rfl
  rw [this]
  show Result.ok (sliced A 0 (k : Int).toNat c 8) w = _
  unfold sliced
  cases A with
  | none => simp
  | some a => simp [Addr.add]
set_option maxRecDepth 100000 in
theorem tslice_tail {w : World} (A : Option Addr) {n c k : Nat} (h : k ≤ n) : (Instr.slice 44 (.slice A n c) (some (.int .i64 k)) none none).run Try.prog w = .ok (.slice (tailT A c k) (n - k) (c - k)) w := by
  rw [run_slice_l w 44 A n c Try.underlying44 .i64 k (by omega) (by omega)]
  have : (sizeOf (Try.prog.elem 44)).run Try.prog w = .ok 8 w := by kernel_rfl
  rw [this]
  show Result.ok (sliced A (k : Int).toNat n c 8) w = _
  unfold sliced tailT
  simp
theorem tdCells_drop (l : List Td) (k : Nat) : tdCells (l.drop k) = (tdCells l).drop (k * 8) := by
  induction k generalizing l with
  | zero => simp
  | succ k ih =>
    cases l with
    | nil => simp [tdCells]
    | cons x l =>
      rw [List.drop_succ_cons, ih]
      show (tdCells l).drop (k * 8) = (Td.cells x ++ tdCells l).drop ((k + 1) * 8)
      have h6 : (Td.cells x).length = 8 := rfl
      rw [show (k + 1) * 8 = (Td.cells x).length + k * 8 by rw [h6]; omega, ← List.drop_drop, List.drop_left]
theorem tdCells_take (l : List Td) (k : Nat) : tdCells (l.take k) = (tdCells l).take (k * 8) := by
  have h : tdCells (l.take k) ++ tdCells (l.drop k) = (tdCells l).take (k * 8) ++ (tdCells l).drop (k * 8) := by
    rw [← tdCells_app, List.take_append_drop, List.take_append_drop]
  rw [tdCells_drop] at h
  exact List.append_cancel_right h
theorem thas_tail {w : World} {B c k : Nat} {A : Option Addr} {l : List Td} (h : Has w B A (tdCells l)) (hc : l.length ≤ c) (_ : k ≤ l.length) : Has w B (tailT A c k) (tdCells (l.drop k)) := fun j u hj => by
  unfold tailT
  by_cases e : c = k
  · rw [List.drop_eq_nil_of_le (by omega)] at hj
    simp [tdCells] at hj
  · rw [if_neg e]
    rw [tdCells_drop, List.getElem?_drop] at hj
    obtain ⟨ad, rfl, hb, hcell⟩ := h _ u hj
    exact ⟨ad.add (k * 8), rfl, by rw [addr_block]; exact hb, by rw [addr_add]; exact hcell⟩
theorem ttail_none {A : Option Addr} {c k : Nat} (h : A = none → c = 0) (e : tailT A c k = none) : c - k = 0 := by
  unfold tailT at e
  cases A with
  | none => rw [h rfl]; omega
  | some a =>
    split at e
    · cases e
    · cases e
theorem town_none {w : World} {base n c s : Nat} {e : TypeId} {A : Option Addr} {xs : List Value} (h : w.ownsRow base e s (.slice A n c) n xs) : A = none → c = 0 := by
  intro hA
  rcases h.2 with ⟨h2, _⟩ | ⟨g, cap, cur, hv, _⟩
  · injection h2
  · subst hA
    injection hv with h3
    cases h3
theorem town_prefix {w : World} {base n c k s : Nat} {e : TypeId} {A : Option Addr} {xs : List Value} (h : w.ownsRow base e s (.slice A n c) n xs) (hk : k ≤ n) : w.ownsRow base e s (.slice A k c) k (xs.take (k * s)) := by
  have hks : k * s ≤ n * s := Nat.mul_le_mul_right s hk
  refine ⟨by rw [List.length_take, h.1]; omega, ?_⟩
  rcases h.2 with ⟨h2, h3⟩ | ⟨g, cap, cur, hv, hg, hb, hc, hm, hz, ht⟩
  · injection h2 with a1 a2 a3
    subst a1 a3
    exact Or.inl ⟨by rw [show k = 0 by omega], by omega⟩
  · injection hv with a1 a2 a3
    subst a1 a3
    exact Or.inr ⟨g, c, cur, rfl, hg, hb, by omega, hm, hz, by rw [← ht, List.take_take, Nat.min_eq_left hks]⟩
/-! ### marks -/
theorem bit_more {bs : List Bool} {z : Int} (h13 : bs.length = 13) (hz : 0 ≤ z ∧ z < 13) (hm : marked bs z = false) : cnt (bitS bs z) = cnt bs + 1 ∧ ∀ y, marked bs y = true ∨ y = z ↔ marked (bitS bs z) y = true := by
  obtain ⟨k, rfl⟩ : ∃ k : Nat, z = k := ⟨z.toNat, by omega⟩
  have hk : k < 13 := by omega
  have hb : bs[k]? = some false := by
    have hl : k < bs.length := by omega
    cases e : bs[k] with
    | false => rw [List.getElem?_eq_getElem hl, e]
    | true =>
      have := marked_is hk (b := true) (by rw [List.getElem?_eq_getElem hl, e])
      rw [hm] at this
      cases this
  rw [bit_nat hk]
  refine ⟨cnt_set hb, fun y => ?_⟩
  unfold marked
  by_cases hy : 0 ≤ y ∧ y < 13
  · rw [decide_eq_true hy]
    obtain ⟨j, rfl⟩ : ∃ j : Nat, y = j := ⟨y.toNat, by omega⟩
    show (true && (bs[j]? == some true)) = true ∨ _ ↔ (true && ((bs.set k true)[j]? == some true)) = true
    by_cases e : k = j
    · subst e
      rw [List.getElem?_set_self (by omega)]
      simp
    · rw [List.getElem?_set_ne e]
      have : ¬ (j : Int) = k := by omega
      simp [this]
  · rw [decide_eq_false hy]
    have : ¬ y = (k : Int) := fun e => hy (by omega)
    simp [this]
/-- A row with one more node. -/
def Td.add (d : Td) (nd : Int) (v3 : Value) : Td := ⟨⟨d.x.rq, bitS d.x.bs nd, d.x.sc⟩, d.ns ++ [nd], v3, d.sc⟩
def Td.at_ (d : Td) (ck : Int) : Td := ⟨⟨d.x.rq, d.x.bs, ck⟩, d.ns, d.nv, ck⟩
theorem td_blank {f : Int} (h1 : 1 ≤ f) (r : Rq) : Td.Ok f ⟨blank r, [], .slice none 0 0, -1⟩ := by
  refine ⟨by rfl, fun z => ?_, fun h => ?_⟩
  · have : marked noMarks z = false := by
      unfold marked
      by_cases hz : 0 ≤ z ∧ z < 13
      · obtain ⟨k, rfl⟩ : ∃ k : Nat, z = k := ⟨z.toNat, by omega⟩
        have hk : k < 13 := by omega
        show (decide _ && (noMarks[k]? == some true)) = false
        unfold noMarks
        rw [List.getElem?_replicate, if_pos hk]
        simp
      · rw [decide_eq_false hz]; rfl
    show decide (z ∈ ([] : List Int)) = marked noMarks z
    rw [this]
    simp
  · exact absurd (of_decide_eq_true h) (by show ¬ f + 1 ≤ (cnt noMarks : Int); rw [show cnt noMarks = 0 by rfl]; omega)
section
variable {f : Int} {d : Td} {nd ck : Int} {v3 : Value}
theorem Td.Ok.old (_ : d.Ok f) (hm : marked d.x.bs nd = true) : mark f d.x nd ck = (d.x, false) := by unfold mark; rw [hm]; rfl
theorem Td.Ok.some_ (h : d.Ok f) (h13 : d.x.bs.length = 13) (hz : 0 ≤ nd ∧ nd < 13) (hm : marked d.x.bs nd = false) (hc : (d.ns.length : Int) + 1 ≠ f + 1) : (d.add nd v3).Ok f ∧ mark f d.x nd ck = ((d.add nd v3).x, false) := by
  obtain ⟨h1, h2⟩ := bit_more h13 hz hm
  refine ⟨⟨?_, fun y => ?_, fun hr => ?_⟩, ?_⟩
  · show cnt (bitS d.x.bs nd) = (d.ns ++ [nd]).length
    rw [h1, h.len, List.length_append]; rfl
  · show decide (y ∈ d.ns ++ [nd]) = marked (bitS d.x.bs nd) y
    rw [Bool.eq_iff_iff, ← h2, ← h.mem y]
    simp
  · have hr := of_decide_eq_true hr
    have hr : f + 1 ≤ (cnt (bitS d.x.bs nd) : Int) := hr
    rw [h1, h.len] at hr
    exact h.sc (decide_eq_true (by rw [h.len]; omega))
  · unfold mark
    rw [hm, if_neg (by simp), if_neg (by rw [h1, h.len]; omega)]
    rfl
theorem Td.Ok.just (h : d.Ok f) (h13 : d.x.bs.length = 13) (hz : 0 ≤ nd ∧ nd < 13) (hm : marked d.x.bs nd = false) (hc : (d.ns.length : Int) + 1 = f + 1) : ((d.add nd v3).at_ ck).Ok f ∧ mark f d.x nd ck = (((d.add nd v3).at_ ck).x, true) := by
  obtain ⟨h1, h2⟩ := bit_more h13 hz hm
  refine ⟨⟨?_, fun y => ?_, fun _ => rfl⟩, ?_⟩
  · show cnt (bitS d.x.bs nd) = (d.ns ++ [nd]).length
    rw [h1, h.len, List.length_append]; rfl
  · show decide (y ∈ d.ns ++ [nd]) = marked (bitS d.x.bs nd) y
    rw [Bool.eq_iff_iff, ← h2, ← h.mem y]
    simp
  · unfold mark
    rw [hm, if_neg (by simp), if_pos (by rw [h1, h.len]; omega)]
    rfl
end
/-- What Put works on: the table as it was, its own copy of the rows in block g. -/
structure Qt (w : World) (pb : Nat) (f n : Int) (v : Value) (D : List Td) (g c : Nat) (D1 : List Td) (wr : World) : Prop where
  tab : Pw wr pb f n v D
  own : wr.ownsRow w.heap.size 75 8 (.slice (some ⟨g, 0, none⟩) D1.length c) D1.length (tdCells D1)
  low : Below w.heap.size w wr
  nod : ∀ d ∈ D1, wr.ownsRow 0 3 1 d.nv d.ns.length (ints d.ns)
  vl : ∀ j, v.ownBlock = some j → j < w.heap.size
section
variable {w wr wz : World} {pb g c k : Nat} {f n : Int} {v : Value} {D D1 : List Td} {d : Td}
theorem Qt.below (h : Qt w pb f n v D g c D1 wr) (hb : Below wr.heap.size wr wz) : Qt w pb f n v D g c D1 wz :=
  ⟨h.tab.below hb, below_own h.own hb (Nat.le_refl _), h.low.trans (hb.mono h.low.size), fun d hd => below_own (h.nod d hd) hb (Nat.le_refl _), h.vl⟩
theorem Qt.drewN (h : Qt w pb f n v D g c D1 wr) (m : Nat) : Qt w pb f n v D g c D1 (wr.drewN m) := h.below ⟨rfl, rfl, rfl, Nat.le_refl _, fun _ _ => rfl⟩
theorem Qt.new (h : Qt w pb f n v D g c D1 wr) : w.heap.size ≤ g ∧ g < wr.heap.size := h.own.lt g rfl
theorem Qt.off (h : Qt w pb f n v D g c D1 wr) : pb ≠ g := fun e => own_blk_ne h.own h.tab.blk (by decide) (by rw [e]; rfl)
theorem Qt.cell (h : Qt w pb f n v D g c D1 wr) (hd : D1[k]? = some d) : (wr.cell? ⟨g, k * 8 + 6, none⟩ = some d.nv ∧ wr.frozen? ⟨g, k * 8 + 6, none⟩ = false) ∧ wr.cell? ⟨g, k * 8 + 7, none⟩ = some (.int .i64 d.sc) ∧ wr.frozen? ⟨g, k * 8 + 7, none⟩ = false := by
  obtain ⟨hk, e⟩ := List.getElem?_eq_some_iff.1 hd
  obtain ⟨ad, e', _, hR⟩ := td_at (has_rows h.own) hk
  cases e'
  rw [e] at hR
  have c6 := hR.c6
  have c7 := hR.c7
  rw [addr_at] at c6 c7
  exact ⟨⟨c6, h.own.frozenAt _⟩, c7, h.own.frozenAt _⟩
/-- A store into the copy. -/
theorem Qt.set_ (h : Qt w pb f n v D g c D1 wr) (hd : D1[k]? = some d) {d' : Td} {i : Nat} {u : Value} (hi : i < 8) (hc : d'.cells = d.cells.set i u) (hn : wr.ownsRow 0 3 1 d'.nv d'.ns.length (ints d'.ns)) : Qt w pb f n v D g c (D1.set k d') (wr.setCell ⟨g, k * 8 + i, none⟩ u) := by
  have hs := (h.own.stored (k * 8 + i) u).1
  unfold tdCells at hs
  rw [flat_set (f := Td.cells) (s := 8) (fun _ => rfl) hi hd hc] at hs
  have hT : Turn (fun j => j = g) wr (wr.setCell ⟨g, k * 8 + i, none⟩ u) := (Turn.refl _ wr).set_ ⟨g, k * 8 + i, none⟩ u rfl
  have hnew := h.new
  have hblk : ∀ j cs, Blk wr j 3 cs → j ≠ g := fun j cs hj e => own_blk_ne h.own hj (by decide) (by rw [e]; rfl)
  refine ⟨⟨hT.blk h.tab.blk h.off, hT.own h.tab.row (fun j hj e => by have := h.vl j hj; omega), fun e he => turn_own_blk (h.tab.nod e he) hT hblk, h.tab.ok, h.tab.fine⟩, by rw [List.length_set]; exact hs, h.low.trans (hT.below h.low.size (fun j hj => by omega)), fun e he => ?_, h.vl⟩
  · obtain ⟨j, hj⟩ := List.getElem?_of_mem he
    rw [List.getElem?_set] at hj
    split at hj
    · split at hj
      · cases hj
        exact turn_own_blk hn hT hblk
      · cases hj
    · exact turn_own_blk (h.nod e (List.mem_of_getElem? hj)) hT hblk
/-- The last store. -/
theorem Qt.done (h : Qt w pb f n v D g c D1 wr) (hok : ∀ d ∈ D1, d.Ok f) (hf : Fine f n (trs D1)) : PwPost w pb f n D1 (wr.setCell ⟨pb, 2, none⟩ (.slice (some ⟨g, 0, none⟩) D1.length c)) :=
  ⟨_, ⟨h.tab.blk.set_ 2 _, own_far (p := ⟨pb, 2, none⟩) (own_down h.own (Nat.zero_le _)) (fun e => h.off (by injection e with e; exact e.symm)) _, fun d hd => own_far (p := ⟨pb, 2, none⟩) (h.nod d hd) (own_blk_ne (h.nod d hd) h.tab.blk (by decide)) _, hok, hf⟩, (Turn.of_below h.low).set_ _ _ rfl⟩
end
end Go.Proofs.Ytbpefdnlldpjiaa

namespace Go.Proofs.Ytbpefdnlldpjiaa
open Go.RowKit Go.Sort
set_option linter.unusedSimpArgs false

/-- What Put answers and leaves. -/
def PutPost (w : World) (pb : Nat) (f n : Int) (D : List Td) (r : Rq) (nd ck : Int) (e : Ending) (w' : World) : Prop :=
  e = .returned (.tuple #[.bool (putT f n (trs D) r nd ck).1.1, .bool (putT f n (trs D) r nd ck).1.2.1, .int .i64 (putT f n (trs D) r nd ck).1.2.2]) ∧ ∃ D', trs D' = (putT f n (trs D) r nd ck).2 ∧ PwPost w pb f n D' w'
theorem put_done {w wz : World} {pb g c k m1 : Nat} {f n : Int} {v : Value} {D D1 : List Td} {d' : Td} {r : Rq} {nd ck : Int} {fb b : Bool} (h : Qt w pb f n v D g c (D1.set k d') wz) (hok : ∀ e ∈ D1, e.Ok f) (hd' : d'.Ok f) (hm : D1.length = m1)
    (ha : (putT f n (trs D) r nd ck).1 = (fb, b, 0)) (ht : trs (D1.set k d') = (putT f n (trs D) r nd ck).2) (hf : Fine f n (putT f n (trs D) r nd ck).2) : PutPost w pb f n D r nd ck (.returned (.tuple #[.bool fb, .bool b, .int .i64 0])) (wz.setCell ⟨pb, 2, none⟩ (.slice (some ⟨g, 0, none⟩) m1 c)) := by
  refine ⟨by rw [ha], _, ht, ?_⟩
  have := h.done (fun e he => ?_) (by rw [ht]; exact hf)
  · rw [List.length_set, hm] at this
    exact this
  · obtain ⟨j, hj⟩ := List.getElem?_of_mem he
    rw [List.getElem?_set] at hj
    split at hj
    · split at hj
      · cases hj; exact hd'
      · cases hj
    · exact hok e (List.mem_of_getElem? hj)
theorem own_form {w : World} {b n s : Nat} {e : TypeId} {v : Value} {xs : List Value} (h : w.ownsRow b e s v n xs) (hn : 0 < n) : ∃ g c, v = .slice (some ⟨g, 0, none⟩) n c := by
  rcases h.2 with ⟨_, h2⟩ | ⟨g, cap, cur, hv, _⟩
  · omega
  · exact ⟨g, cap, hv⟩
theorem trs_set (D : List Td) (k : Nat) (d : Td) : trs (D.set k d) = (trs D).set k d.x := List.map_set ..
section
variable {w : World} {pb : Nat} {f n : Int} {v : Value} {D : List Td}
set_option maxHeartbeats 1000000 in
theorem qput_bad (h : Pw w pb f n v D) (r : Rq) (nd ck : Int) (hc : ¬ (0 ≤ r.cl ∧ r.cl < n ∧ 0 ≤ nd ∧ nd < 3 * f + 1)) : Calls Try.prog 33 #[.pointer (some ⟨pb, 0, none⟩), .agg #[.int .i64 r.cl, .int .i64 r.tm, .int .i64 r.kd, .int .i64 r.ky, .int .i64 r.vl, .int .i64 r.sg], .int .i64 nd, .int .i64 ck] w fun e w' => e = .returned (.tuple #[.bool false, .bool false, .int .i64 1]) ∧ Below w.heap.size w w' := by
  have HN := Lib.hid (fun (w : World) => (show Calls Try.prog 20 #[.int .i64 f] w fun e w' => e = .returned (.int .i64 (3 * f + 1)) ∧ w' = w from by
    have := rnodes_any f w
    rw [nodesS_in h.fine.f1 h.fine.f4] at this
    exact this.mono fun _ _ he => ⟨he.1, he.2.symm⟩))
  have hB0 : Below w.heap.size w (w.alloc (.cells #[.int .i64 r.cl, .int .i64 r.tm, .int .i64 r.kd, .int .i64 r.ky, .int .i64 r.vl, .int .i64 r.sg] 25)) := (Below.refl _ _).alloc (Nat.le_refl _) _
  have HB0 := Lib.hid hB0
  have HT := Lib.hid (fun m => (h.below hB0).drewN m)
  have HX := Lib.hid (Blk.new w 25 #[.int .i64 r.cl, .int .i64 r.tm, .int .i64 r.kd, .int .i64 r.ky, .int .i64 r.vl, .int .i64 r.sg])
  obtain ⟨w1, hw1⟩ : ∃ w1, (w.alloc (.cells #[.int .i64 r.cl, .int .i64 r.tm, .int .i64 r.kd, .int .i64 r.ky, .int .i64 r.vl, .int .i64 r.sg] 25)) = w1 := ⟨_, rfl⟩
  have HW1 := Lib.hid hw1
  rw [hw1] at HB0 HT HX
  clear hw1 hB0
  have k0 := fun (m : Nat) => (show (w1.drewN m).cell? ⟨pb, 0, none⟩ = some (.int .i64 f) from (HT.out m).blk.cell 0)
  have k1 := fun (m : Nat) => (show (w1.drewN m).cell? ⟨pb, 1, none⟩ = some (.int .i64 n) from (HT.out m).blk.cell 1)
  have d0 := fun (m : Nat) => (show (w1.drewN m).cell? ⟨w.heap.size, 0, none⟩ = some (.int .i64 r.cl) from HX.out.cell 0)
  obtain ⟨gt, hgt⟩ : ∃ g, w.heap.size = g := ⟨_, rfl⟩
  rw [hgt] at d0 HB0
  have l0 := k0 0
  have l1 := k1 0
  have m0 := d0 0
  clear h
  have hor : r.cl < 0 ∨ (¬ r.cl < 0 ∧ n ≤ r.cl) ∨ (¬ r.cl < 0 ∧ ¬ n ≤ r.cl ∧ nd < 0) ∨ (¬ r.cl < 0 ∧ ¬ n ≤ r.cl ∧ ¬ nd < 0 ∧ 3 * f + 1 ≤ nd) := by omega
  clear hc
  rcases hor with a | ⟨a, b⟩ | ⟨a, b, c⟩ | ⟨a, b, c, d⟩
  · have g1 : decide (r.cl < 0) = true := decide_eq_true a
    clear a
    go_enter Try.func33, Try.ntmps33
    go_wp2_with fail
    rw [HW1.out]
    go_quiet (fail)
    go_wp2_with fail
    go_ret3
    exact ⟨rfl, hgt ▸ HB0.out.trans ⟨rfl, rfl, rfl, Nat.le_refl _, fun _ _ => rfl⟩⟩
  · have g1 : decide (r.cl < 0) = false := decide_eq_false a
    have g2 : decide (n ≤ r.cl) = true := decide_eq_true b
    clear a b
    go_enter Try.func33, Try.ntmps33
    go_wp2_with fail
    rw [HW1.out]
    go_quiet (fail)
    go_wp2_with fail
    go_ret3
    exact ⟨rfl, hgt ▸ HB0.out.trans ⟨rfl, rfl, rfl, Nat.le_refl _, fun _ _ => rfl⟩⟩
  · have g1 : decide (r.cl < 0) = false := decide_eq_false a
    have g2 : decide (n ≤ r.cl) = false := decide_eq_false b
    have g3 : decide (nd < 0) = true := decide_eq_true c
    clear a b c
    go_enter Try.func33, Try.ntmps33
    go_wp2_with fail
    rw [HW1.out]
    go_quiet (fail)
    go_wp2_with fail
    go_ret3
    exact ⟨rfl, hgt ▸ HB0.out.trans ⟨rfl, rfl, rfl, Nat.le_refl _, fun _ _ => rfl⟩⟩
  · have g1 : decide (r.cl < 0) = false := decide_eq_false a
    have g2 : decide (n ≤ r.cl) = false := decide_eq_false b
    have g3 : decide (nd < 0) = false := decide_eq_false c
    have g4 : decide (3 * f + 1 ≤ nd) = true := decide_eq_true d
    clear a b c d
    go_enter Try.func33, Try.ntmps33
    go_wp2_with fail
    rw [HW1.out]
    go_quiet ((go_at_call 20; exact Calls.quiet_of_same (HN.out _)))
    go_wp2_with fail
    go_ret3
    exact ⟨rfl, hgt ▸ HB0.out.trans ⟨rfl, rfl, rfl, Nat.le_refl _, fun _ _ => rfl⟩⟩
set_option maxHeartbeats 8000000 in
set_option maxRecDepth 100000 in
theorem qput_old (h : Pw w pb f n v D) (r : Rq) (nd ck : Int) (hc : 0 ≤ r.cl ∧ r.cl < n ∧ 0 ≤ nd ∧ nd < 3 * f + 1) (hh : had (trs D) r = true) : Calls Try.prog 33 #[.pointer (some ⟨pb, 0, none⟩), .agg #[.int .i64 r.cl, .int .i64 r.tm, .int .i64 r.kd, .int .i64 r.ky, .int .i64 r.vl, .int .i64 r.sg], .int .i64 nd, .int .i64 ck] w (PutPost w pb f n D r nd ck) := by
  have HN := Lib.hid (fun (w : World) => (show Calls Try.prog 20 #[.int .i64 f] w fun e w' => e = .returned (.int .i64 (3 * f + 1)) ∧ w' = w from by
    have := rnodes_any f w
    rw [nodesS_in h.fine.f1 h.fine.f4] at this
    exact this.mono fun _ _ he => ⟨he.1, he.2.symm⟩))
  have hB0 : Below w.heap.size w (w.alloc (.cells #[.int .i64 r.cl, .int .i64 r.tm, .int .i64 r.kd, .int .i64 r.ky, .int .i64 r.vl, .int .i64 r.sg] 25)) := (Below.refl _ _).alloc (Nat.le_refl _) _
  have HB0 := Lib.hid hB0
  have HT := Lib.hid (fun m => (h.below hB0).drewN m)
  have HX := Lib.hid (Blk.new w 25 #[.int .i64 r.cl, .int .i64 r.tm, .int .i64 r.kd, .int .i64 r.ky, .int .i64 r.vl, .int .i64 r.sg])
  obtain ⟨w1, hw1⟩ : ∃ w1, (w.alloc (.cells #[.int .i64 r.cl, .int .i64 r.tm, .int .i64 r.kd, .int .i64 r.ky, .int .i64 r.vl, .int .i64 r.sg] 25)) = w1 := ⟨_, rfl⟩
  have HW1 := Lib.hid hw1
  rw [hw1] at HB0 HT HX
  clear hw1 hB0
  have k0 := fun (m : Nat) => (show (w1.drewN m).cell? ⟨pb, 0, none⟩ = some (.int .i64 f) from (HT.out m).blk.cell 0)
  have k1 := fun (m : Nat) => (show (w1.drewN m).cell? ⟨pb, 1, none⟩ = some (.int .i64 n) from (HT.out m).blk.cell 1)
  have d0 := fun (m : Nat) => (show (w1.drewN m).cell? ⟨w.heap.size, 0, none⟩ = some (.int .i64 r.cl) from HX.out.cell 0)
  have d1 := fun (m : Nat) => (show (w1.drewN m).cell? ⟨w.heap.size, 1, none⟩ = some (.int .i64 r.tm) from HX.out.cell 1)
  have d2 := fun (m : Nat) => (show (w1.drewN m).cell? ⟨w.heap.size, 2, none⟩ = some (.int .i64 r.kd) from HX.out.cell 2)
  have d3 := fun (m : Nat) => (show (w1.drewN m).cell? ⟨w.heap.size, 3, none⟩ = some (.int .i64 r.ky) from HX.out.cell 3)
  have d4 := fun (m : Nat) => (show (w1.drewN m).cell? ⟨w.heap.size, 4, none⟩ = some (.int .i64 r.vl) from HX.out.cell 4)
  have d5 := fun (m : Nat) => (show (w1.drewN m).cell? ⟨w.heap.size, 5, none⟩ = some (.int .i64 r.sg) from HX.out.cell 5)
  have l0 := k0 0
  have l1 := k1 0
  have m0 := d0 0
  have g1 : decide (r.cl < 0) = false := decide_eq_false (by omega)
  have g2 : decide (n ≤ r.cl) = false := decide_eq_false (by omega)
  have g3 : decide (nd < 0) = false := decide_eq_false (by omega)
  have g4 : decide (3 * f + 1 ≤ nd) = false := decide_eq_false (by omega)
  have hnd13 : 0 ≤ nd ∧ nd < 13 := by have := h.fine.f4; omega
  have HWk := Lib.hid (fun w => rweak_any f w)
  rw [weakS_in h.fine.f1 h.fine.f4] at HWk
  obtain ⟨i0, hi0, hx0, hx1, hx2⟩ := info_parts info_td
  obtain ⟨j0, hj0, hy0, hy1, hy2⟩ := info_parts int_info
  have hm := h.most
  have HOne := Lib.hid (td_one D fun d hd => own_slice_one (h.nod d hd))
  have HVl := Lib.hid (fun j hj => (h.row.lt j hj).2)
  have HH := Lib.hid h
  have HF := Lib.hid (fun m => qfind_any (HT.out m) r)
  rw [show findT (trs D) r = (seat (trs D) r : Int) from if_pos hh] at HF
  obtain ⟨A, c, rfl, -, -⟩ := own_slice h.row
  obtain ⟨n0, hn0⟩ : ∃ n0, D.length = n0 := ⟨_, rfl⟩
  have HN0 := Lib.hid hn0
  obtain ⟨ad, cc, d, -, hks, hkd, -, hdx⟩ := h.here hh
  have HFin := Lib.hid (h.fine.put r nd ck)
  have HPT := Lib.hid (fun (d' : Td) (b : Bool) (hm : mark f d.x nd ck = (d'.x, b)) => show (putT f n (trs D) r nd ck).1 = (false, b, 0) ∧ trs (D.set (seat (trs D) r) d') = (putT f n (trs D) r nd ck).2 from by
    unfold putT
    rw [if_pos hc, if_neg (by rw [hh]; simp), ← hdx, hm]
    refine ⟨by rw [hh]; rfl, ?_⟩
    show _ = upd (trs D) d'.x
    have hq : d'.x.rq = r := by
      have := mark_rq f d.x nd ck
      rw [hm] at this
      rw [show d'.x.rq = d.x.rq from this, hdx, rowOf_rq]
    unfold upd
    rw [hq, if_pos hh, trs_set])
  have HK13 := Lib.hid (h.fine.len d.x (List.mem_of_getElem? (trs_get hkd)))
  have HKd := Lib.hid hkd
  have HOks := Lib.hid h.ok
  obtain ⟨k, hk⟩ : ∃ k, seat (trs D) r = k := ⟨_, rfl⟩
  rw [hk] at HF HPT HKd hks
  have hk16 : k ≤ 16 := by omega
  have hn0p : 0 < n0 := by omega
  clear hkd hdx hk
  rw [hn0] at hm HH HT HVl
  have HC := Lib.hid hc
  clear h hc hn0 hh
  obtain ⟨gt, hgt⟩ : ∃ g, w.heap.size = g := ⟨_, rfl⟩
  rw [hgt] at d0 d1 d2 d3 d4 d5 m0 HX HB0
  go_enter Try.func33, Try.ntmps33
  go_wp2_with fail
  rw [HW1.out]
  go_quiet ((go_at_call 20; exact Calls.quiet_of_same (HN.out _)))
  clear g1 g2 g3 g4
  go_wp2_with fail
  refine (HF.out nq).mono ?_
  rintro e w3 ⟨rfl, hb3⟩
  have HB3 := Lib.hid (show Below w.heap.size w w3 from hgt ▸ HB0.out.trans (Below.trans (⟨rfl, rfl, rfl, Nat.le_refl _, fun _ _ => rfl⟩ : Below gt w1 (w1.drewN nq)) (hb3.mono (show gt ≤ (w1.drewN nq).heap.size from hgt ▸ HB0.out.size))))
  have HT3 := Lib.hid ((HT.out nq).below hb3)
  have HX3 := Lib.hid (show Blk w3 gt 25 #[.int .i64 r.cl, .int .i64 r.tm, .int .i64 r.kd, .int .i64 r.ky, .int .i64 r.vl, .int .i64 r.sg] from Blk.below (show Blk (w1.drewN nq) gt 25 #[.int .i64 r.cl, .int .i64 r.tm, .int .i64 r.kd, .int .i64 r.ky, .int .i64 r.vl, .int .i64 r.sg] from HX.out.drewN nq) hb3 (show gt < w1.heap.size from HX.out.lt))
  have q2 : w3.cell? ⟨pb, 2, none⟩ = some (.slice A n0 c) := HT3.out.blk.cell 2
  have HTL := Lib.hid (show (tdCells D).length = n0 * 8 by rw [tdCells_len, HN0.out])
  have hrow := HT3.out.row
  rw [HN0.out] at hrow
  have HHas := Lib.hid (has_rows hrow)
  have HNon := Lib.hid (town_none hrow)
  clear hrow
  have HM1 := Lib.hid (show 0 + n0 ≤ maxLen by unfold maxLen; omega)
  have HM2 := Lib.hid (show (0 + n0) * 80 ≤ 140737488355328 by omega)
  have HM3 := Lib.hid HB3.out.size
  clear hb3 k0 k1 d0 d1 d2 d3 d4 d5 l0 l1 m0
  go_wp2_with (at_builtin; refine wpList_apps rfl _ _ 44 rfl w.heap.size 75 i0 _ 8 80 Try.underlying44 hi0 hx0 hx1 hx2 rfl (by decide) (.slice none 0 0) 0 [] rfl (World.ownsRow_nil _ _ _ _) _ A n0 c (tdCells D) rfl HTL.out HHas.out HNon.out HOne.out HM1.out HM2.out HM3.out ?_)
  intro v5 w5 ho5 hg5 _
  try rw [Nat.zero_add, List.nil_append] at ho5
  try rw [← hgt] at ho5
  have hb5 : Below w3.heap.size w3 w5 := (Below.refl _ _).grown hg5 (Nat.le_refl _) (fun k hk => by cases hk)
  have HB5 := Lib.hid (HB3.out.trans (hb5.mono HB3.out.size))
  have HT5 := Lib.hid (HT3.out.below hb5)
  have HX5 := Lib.hid (HX3.out.below hb5 HX3.out.lt)
  clear hg5 hb5 q2
  obtain ⟨g, c1, rfl⟩ := own_form ho5 hn0p
  have hQ : Qt w pb f n (.slice A n0 c) D g c1 D w5 := ⟨HT5.out, by rw [HN0.out]; exact ho5, HB5.out, fun d hd => HT5.out.nod d hd, HVl.out⟩
  have HL1 := Lib.hid (show D.length = n0 from HN0.out)
  have HQ := Lib.hid hQ
  have hnod := HQ.out.nod d (List.mem_of_getElem? HKd.out)
  have hdok := HOks.out d (List.mem_of_getElem? HKd.out)
  have HDok := Lib.hid hdok
  have hln13 : d.ns.length ≤ 13 := by
    rw [← hdok.len]
    exact Nat.le_trans (cnt_le _) (by rw [HK13.out]; exact Nat.le_refl _)
  obtain ⟨⟨e6, f6⟩, e7, f7⟩ := HQ.out.cell HKd.out
  obtain ⟨An, cn, hnv, -, -⟩ := own_slice hnod
  rw [hnv] at e6 hnod
  have HM := Lib.hid (ihas_any An cn d.ns nd _ w5 (by omega) (has_rows hnod))
  rw [hdok.mem nd] at HM
  have HHn := Lib.hid (has_rows hnod)
  have HNn := Lib.hid (town_none hnod)
  have p2 : w5.cell? ⟨pb, 2, none⟩ = some (.slice A n0 c) := HQ.out.tab.blk.cell 2
  have p2f : w5.frozen? ⟨pb, 2, none⟩ = false := HQ.out.tab.blk.frozen 2
  have hkm : k < n0 := by rw [← HL1.out]; exact (List.getElem?_eq_some_iff.1 HKd.out).1
  have hki : (k : Int) < (n0 : Int) := by omega
  obtain ⟨ln, hln⟩ : ∃ ln, d.ns.length = ln := ⟨_, rfl⟩
  have HLn := Lib.hid hln
  rw [hln] at HM e6 hln13 hnv
  have HNv := Lib.hid hnv
  clear hnod hdok hnv hln hQ
  cases hmk : marked d.x.bs nd
  · rw [hmk] at HM
    have HMk := Lib.hid hmk
    have HTLi := Lib.hid (show (ints d.ns).length = ln * 1 by unfold ints; rw [List.length_map, HLn.out, Nat.mul_one])
    have HOni := Lib.hid (show ∀ u ∈ ints d.ns, u.oneCell' = true from fun u hu => by
      obtain ⟨z, _, rfl⟩ := List.mem_map.1 hu
      rfl)
    have HMa := Lib.hid (show 0 + ln ≤ maxLen by unfold maxLen; omega)
    have HMb := Lib.hid (show (0 + ln) * 8 ≤ 140737488355328 by omega)
    have HMc := Lib.hid (Nat.le_refl w5.heap.size)
    clear hmk
    go_wp2_with fail
    refine HM.out.mono ?_
    rintro e w6 ⟨rfl, rfl⟩
    go_wp2_with (at_builtin; refine wpList_apps rfl _ _ 26 rfl w5.heap.size 3 j0 _ 1 8 Try.underlying26 hj0 hy0 hy1 hy2 rfl (by decide) (.slice none 0 0) 0 [] rfl (World.ownsRow_nil _ _ _ _) _ An ln cn (ints d.ns) rfl HTLi.out HHn.out HNn.out HOni.out HMa.out HMb.out HMc.out ?_)
    intro v7 w7 ho7 hg7 _
    try rw [Nat.zero_add, List.nil_append] at ho7
    have hb7 : Below w5.heap.size w5 w7 := (Below.refl _ _).grown hg7 (Nat.le_refl _) (fun k hk => by cases hk)
    obtain ⟨A7, c7, rfl, -, -⟩ := own_slice ho7
    have hba : Below w5.heap.size w5 (w7.alloc (.cells #[.int .i64 nd] 3)) := hb7.alloc hb7.size _
    have HBa := Lib.hid hba
    have HOw := Lib.hid (ho7.alloc (.cells #[.int .i64 nd] 3))
    have HNw := Lib.hid (show Has (w7.alloc (.cells #[.int .i64 nd] 3)) (w7.heap.size + 1) (some ⟨w7.heap.size, 0, none⟩) (ints [nd]) from Has.fresh w7 #[.int .i64 nd] 3)
    have HOn1 := Lib.hid (show ∀ u ∈ ints [nd], u.oneCell' = true from fun u hu => by
      obtain ⟨z, _, rfl⟩ := List.mem_map.1 hu
      rfl)
    have HMd := Lib.hid (show ln + 1 ≤ maxLen by unfold maxLen; omega)
    have HMe := Lib.hid (show (ln + 1) * 8 ≤ 140737488355328 by omega)
    have HMf := Lib.hid hba.size
    clear ho7 hg7 hb7 hba
    go_wp2_with (at_builtin; refine wpList_apps rfl _ _ 26 rfl w5.heap.size 3 j0 _ 1 8 Try.underlying26 hj0 hy0 hy1 hy2 rfl (by decide) _ _ _ rfl HOw.out _ (some ⟨w7.heap.size, 0, none⟩) 1 1 (ints [nd]) rfl rfl HNw.out (fun h => nomatch h) HOn1.out HMd.out HMe.out HMf.out ?_)
    intro v8 w8 ho8 hg8 _
    have hb8 : Below w5.heap.size w5 w8 := HBa.out.grown hg8 HMf.out (fun k hk => (HOw.out.lt k hk).1)
    have hQ8 := HQ.out.below hb8
    obtain ⟨z, hz⟩ : ∃ z, ln + 1 = z := ⟨_, rfl⟩
    rw [hz] at ho8
    have HZl := Lib.hid hz
    obtain ⟨A8, c8, rfl, -, -⟩ := own_slice ho8
    have hQ9 := hQ8.set_ HKd.out (d' := d.add nd (.slice A8 z c8)) (i := 6) (u := .slice A8 z c8) (by omega) rfl (by
      show w8.ownsRow 0 3 1 (.slice A8 z c8) (d.ns ++ [nd]).length (ints (d.ns ++ [nd]))
      rw [List.length_append, HLn.out, show ln + [nd].length = z from HZl.out, show ints (d.ns ++ [nd]) = ints d.ns ++ ints [nd] from List.map_append]
      exact own_down ho8 (Nat.zero_le _))
    have HKd9 := Lib.hid (show (D.set k (d.add nd (.slice A8 z c8)))[k]? = some (d.add nd (.slice A8 z c8)) from List.getElem?_set_self (List.getElem?_eq_some_iff.1 HKd.out).1)
    obtain ⟨⟨s6, s6f⟩, -, -⟩ := hQ8.cell HKd.out
    rw [HNv.out] at s6
    have r2 : w8.cell? ⟨pb, 2, none⟩ = some (.slice A n0 c) := hQ8.tab.blk.cell 2
    obtain ⟨w9, hw9⟩ : ∃ w9, w8.setCell ⟨g, k * 8 + 6, none⟩ (.slice A8 z c8) = w9 := ⟨_, rfl⟩
    have HW9 := Lib.hid hw9
    rw [hw9] at hQ9
    have HQ9 := Lib.hid hQ9
    clear ho8 hg8 hb8 hz hQ8 hQ9 hw9
    go_wp2_with fail
    rw [HW9.out]
    obtain ⟨⟨t6, t6f⟩, t7, t7f⟩ := HQ9.out.cell HKd9.out
    have t6d : w9.drew.cell? ⟨g, k * 8 + 6, none⟩ = some (.slice A8 z c8) := t6
    have t0d : w9.drew.cell? ⟨pb, 0, none⟩ = some (.int .i64 f) := HQ9.out.tab.blk.cell 0
    obtain ⟨fw, hfw⟩ : ∃ fw, f + 1 = fw := ⟨_, rfl⟩
    rw [hfw] at HWk
    have HFw := Lib.hid hfw
    clear hfw s6 s6f r2 t6 t6f t7 t7f e6 f6 e7 f7 p2 p2f
    by_cases hq : (z : Int) = fw
    · have hqg : ((z : Int) == fw) = true := by simpa using hq
      obtain ⟨hok2, hmk2⟩ := HDok.out.just (v3 := .slice A8 z c8) (ck := ck) HK13.out hnd13 HMk.out (by have := HLn.out; have := HZl.out; have := HFw.out; omega)
      have hQ10 := (HQ9.out.drewN 1).set_ HKd9.out (d' := (d.add nd (.slice A8 z c8)).at_ ck) (i := 7) (u := .int .i64 ck) (by omega) rfl (by have := HQ9.out.nod _ (List.mem_of_getElem? HKd9.out); exact below_own this ⟨rfl, rfl, rfl, Nat.le_refl _, fun _ _ => rfl⟩ (Nat.le_refl _))
      rw [list_set_set] at hQ10
      obtain ⟨-, t7, t7f⟩ := (HQ9.out.drewN 1).cell HKd9.out
      have t7 : w9.drew.cell? ⟨g, k * 8 + 7, none⟩ = some (.int .i64 d.sc) := t7
      have t7f : w9.drew.frozen? ⟨g, k * 8 + 7, none⟩ = false := t7f
      have HZ := Lib.hid (put_done hQ10 HOks.out hok2 HL1.out (HPT.out _ _ hmk2).1 (HPT.out _ _ hmk2).2 HFin.out)
      have HZ := Lib.hid (show PutPost w pb f n D r nd ck (.returned (.tuple #[.bool false, .bool true, .int .i64 0])) (((w9.setCell ⟨g, k * 8 + 7, none⟩ (.int .i64 ck)).setCell ⟨pb, 2, none⟩ (.slice (some ⟨g, 0, none⟩) n0 c1)).drew) from HZ.out)
      have s2 : (w9.setCell ⟨g, k * 8 + 7, none⟩ (.int .i64 ck)).drew.cell? ⟨pb, 2, none⟩ = some (.slice A n0 c) := hQ10.tab.blk.cell 2
      have s2f : (w9.setCell ⟨g, k * 8 + 7, none⟩ (.int .i64 ck)).drew.frozen? ⟨pb, 2, none⟩ = false := hQ10.tab.blk.frozen 2
      have s2' : (w9.setCell ⟨g, k * 8 + 7, none⟩ (.int .i64 ck)).cell? ⟨pb, 2, none⟩ = some (.slice A n0 c) := hQ10.tab.blk.cell 2
      have s2f' : (w9.setCell ⟨g, k * 8 + 7, none⟩ (.int .i64 ck)).frozen? ⟨pb, 2, none⟩ = false := hQ10.tab.blk.frozen 2
      clear hq hok2 hmk2 hQ10
      go_wp2_with fail
      go_region_held3 (fun w' => w'.cell? ⟨g, k * 8 + 6, none⟩ = some (.slice A8 z c8) ∧ w'.cell? ⟨pb, 0, none⟩ = some (.int .i64 f)) (first | exact ⟨t6d, t0d⟩ | go_keep)
        ((go_at_call 51; refine (HWk.out _).mono ?_; rintro e w3 ⟨rfl, rfl⟩))
      go_wp2_with fail
      go_ret3
      exact HZ.out
    · have hqg : ((z : Int) == fw) = false := by simpa using hq
      obtain ⟨hok2, hmk2⟩ := HDok.out.some_ (v3 := .slice A8 z c8) (ck := ck) HK13.out hnd13 HMk.out (by have := HLn.out; have := HZl.out; have := HFw.out; omega)
      have HZ := Lib.hid (put_done (HQ9.out.drewN 1) HOks.out hok2 HL1.out (HPT.out _ _ hmk2).1 (HPT.out _ _ hmk2).2 HFin.out)
      have HZ := Lib.hid (show PutPost w pb f n D r nd ck (.returned (.tuple #[.bool false, .bool false, .int .i64 0])) (w9.drew.setCell ⟨pb, 2, none⟩ (.slice (some ⟨g, 0, none⟩) n0 c1)) from HZ.out)
      have s2 : w9.drew.cell? ⟨pb, 2, none⟩ = some (.slice A n0 c) := HQ9.out.tab.blk.cell 2
      have s2f : w9.drew.frozen? ⟨pb, 2, none⟩ = false := HQ9.out.tab.blk.frozen 2
      clear hq hok2 hmk2
      go_wp2_with fail
      go_region_held3 (fun w' => w'.cell? ⟨g, k * 8 + 6, none⟩ = some (.slice A8 z c8) ∧ w'.cell? ⟨pb, 0, none⟩ = some (.int .i64 f)) (first | exact ⟨t6d, t0d⟩ | go_keep)
        ((go_at_call 51; refine (HWk.out _).mono ?_; rintro e w3 ⟨rfl, rfl⟩))
      go_wp2_with fail
      go_ret3
      exact HZ.out
  · rw [hmk] at HM
    have hQs : Qt w pb f n (.slice A n0 c) D g c1 (D.set k d) w5 := by rw [list_set_same HKd.out]; exact HQ.out
    have hmk2 := HDok.out.old (ck := ck) hmk
    have HZ := Lib.hid (put_done hQs HOks.out HDok.out HL1.out (HPT.out _ _ hmk2).1 (HPT.out _ _ hmk2).2 HFin.out)
    have HZ := Lib.hid (show PutPost w pb f n D r nd ck (.returned (.tuple #[.bool false, .bool false, .int .i64 0])) (w5.setCell ⟨pb, 2, none⟩ (.slice (some ⟨g, 0, none⟩) n0 c1)) from HZ.out)
    clear hmk hQs hmk2
    go_wp2_with fail
    refine HM.out.mono ?_
    rintro e w6 ⟨rfl, rfl⟩
    go_wp2_with fail
    go_ret3
    exact HZ.out
end
end Go.Proofs.Ytbpefdnlldpjiaa

namespace Go.Proofs.Ytbpefdnlldpjiaa
open Go.RowKit Go.Sort
set_option linter.unusedSimpArgs false

/-- A row that is new. -/
def bd (r : Rq) : Td := ⟨blank r, [], .slice none 0 0, -1⟩
def putD (D : List Td) (k : Nat) (d : Td) : List Td := D.take k ++ d :: D.drop k
theorem trs_put (D : List Td) (k : Nat) (d : Td) : trs (putD D k d) = putAt (trs D) k d.x := by simp [trs, putD, putAt, List.map_take, List.map_drop]
theorem putD_set {D : List Td} {k : Nat} (hk : k ≤ D.length) (d e : Td) : (putD D k d).set k e = putD D k e := by
  unfold putD
  rw [List.set_append_right _ _ (by rw [List.length_take]; omega), List.length_take, Nat.min_eq_left hk, Nat.sub_self, List.set_cons_zero]
theorem putD_get {D : List Td} {k : Nat} (hk : k ≤ D.length) (d : Td) : (putD D k d)[k]? = some d := by
  unfold putD
  rw [List.getElem?_append_right (by rw [List.length_take]; omega), List.length_take, Nat.min_eq_left hk, Nat.sub_self]
  rfl
theorem putD_len {D : List Td} {k : Nat} (hk : k ≤ D.length) (d : Td) : (putD D k d).length = D.length + 1 := by
  unfold putD
  rw [List.length_append, List.length_take, List.length_cons, List.length_drop]; omega
theorem putD_mem {D : List Td} {k : Nat} {d e : Td} (h : e ∈ putD D k d) : e = d ∨ e ∈ D := by
  unfold putD at h
  rcases List.mem_append.1 h with h | h
  · exact Or.inr (List.mem_of_mem_take h)
  · rcases List.mem_cons.1 h with h | h
    · exact Or.inl h
    · exact Or.inr (List.mem_of_mem_drop h)
theorem putD_cells (D : List Td) (k : Nat) (r : Rq) : tdCells (putD D k (bd r)) = (tdCells D).take (k * 8) ++ (tdCells [bd r] ++ tdCells (D.drop k)) := by
  unfold putD
  rw [tdCells_app, tdCells_take]
  rfl
/-- What the second loop knows: the copy, the request in its box, where it would have to stand. -/
structure Pl3 (w : World) (D : List Td) (gt : Nat) (r : Rq) (u : Value) (n0 k : Nat) (wr : World) : Prop where
  own : wr.ownsRow w.heap.size 75 8 u n0 (tdCells D)
  low : Below w.heap.size w wr
  box : Blk wr gt 25 #[.int .i64 r.cl, .int .i64 r.tm, .int .i64 r.kd, .int .i64 r.ky, .int .i64 r.vl, .int .i64 r.sg]
  is : place r (rqs (trs D)) (rqs (trs D)).length = place r (rqs (trs D)) k
theorem Pl3.below {w wr wz : World} {D : List Td} {gt n0 k : Nat} {r : Rq} {u : Value} (h : Pl3 w D gt r u n0 k wr) (hb : Below wr.heap.size wr wz) : Pl3 w D gt r u n0 k wz :=
  ⟨below_own h.own hb (Nat.le_refl _), h.low.trans (hb.mono h.low.size), h.box.below hb h.box.lt, h.is⟩
theorem Pl3.to {w wr : World} {D : List Td} {gt n0 k j : Nat} {r : Rq} {u : Value} (h : Pl3 w D gt r u n0 k wr) (hj : place r (rqs (trs D)) (rqs (trs D)).length = place r (rqs (trs D)) j) : Pl3 w D gt r u n0 j wr := ⟨h.own, h.low, h.box, hj⟩
theorem tplace_stop {r x : Rq} {out : List Rq} {k : Nat} (h : out[k]? = some x) (hc : ¬ cmpR r x < 0) : place r out (k + 1) = k + 1 := by
  unfold place; rw [h]; exact if_neg hc
theorem tplace_down {r x : Rq} {out : List Rq} {k : Nat} (h : out[k]? = some x) (hc : cmpR r x < 0) : place r out (k + 1) = place r out k := by
  conv => lhs; unfold place
  rw [h]; exact if_pos hc
theorem td_put {w w3 w4 w5 : World} {pb g k m1 cv cc : Nat} {f n : Int} {v : Value} {D : List Td} {r : Rq} {Av : Option Addr} (h0 : Pw w pb f n v D) (hlow : Below w.heap.size w w3) (hk : k ≤ D.length) (hm : m1 = D.length + 1)
    (hg4 : ((w3.drew).alloc (.cells #[.int .i64 r.cl, .int .i64 r.tm, .int .i64 r.kd, .int .i64 r.ky, .int .i64 r.vl, .int .i64 r.sg, .slice none 0 0, .int .i64 (-1)] 75)).grownBy w4 (some w3.heap.size))
    (hop : w4.ownsRow w.heap.size 75 8 (.slice Av k cv) k ((tdCells D).take (k * 8))) (hg5 : w4.grownBy w5 (Value.slice Av k cv).ownBlock)
    (ho5 : w5.ownsRow w.heap.size 75 8 (.slice (some ⟨g, 0, none⟩) m1 cc) m1 ((tdCells D).take (k * 8) ++ (tdCells [bd r] ++ tdCells (D.drop k)))) : Qt w pb f n v D g cc (putD D k (bd r)) w5 := by
  have h1 : Below w.heap.size w w3.drew := hlow.trans ⟨rfl, rfl, rfl, Nat.le_refl _, fun _ _ => rfl⟩
  have h2 := h1.alloc h1.size (.cells #[.int .i64 r.cl, .int .i64 r.tm, .int .i64 r.kd, .int .i64 r.ky, .int .i64 r.vl, .int .i64 r.sg, .slice none 0 0, .int .i64 (-1)] 75)
  have h3 : Below w.heap.size w w4 := h2.grown hg4 h2.size (fun k hk => by cases hk; exact hlow.size)
  have h4 : Below w.heap.size w w5 := h3.grown hg5 h3.size (fun k hk => (hop.lt k hk).1)
  refine ⟨h0.below h4, by rw [putD_len hk, putD_cells, ← hm]; exact ho5, h4, fun e he => ?_, fun j hj => (h0.row.lt j hj).2⟩
  rcases putD_mem he with rfl | he
  · exact World.ownsRow_nil _ _ _ _
  · exact below_own (h0.nod e he) h4 (Nat.le_refl _)
section
variable {w : World} {pb : Nat} {f n : Int} {v : Value} {D : List Td}
set_option maxHeartbeats 4000000 in
set_option maxRecDepth 100000 in
theorem qput_full (h : Pw w pb f n v D) (r : Rq) (nd ck : Int) (hc : 0 ≤ r.cl ∧ r.cl < n ∧ 0 ≤ nd ∧ nd < 3 * f + 1) (hh : had (trs D) r = false) (hp : pend (trs D) r.cl = 4) : Calls Try.prog 33 #[.pointer (some ⟨pb, 0, none⟩), .agg #[.int .i64 r.cl, .int .i64 r.tm, .int .i64 r.kd, .int .i64 r.ky, .int .i64 r.vl, .int .i64 r.sg], .int .i64 nd, .int .i64 ck] w fun e w' => e = .returned (.tuple #[.bool false, .bool false, .int .i64 3]) ∧ Below w.heap.size w w' := by
  have HN := Lib.hid (fun (w : World) => (show Calls Try.prog 20 #[.int .i64 f] w fun e w' => e = .returned (.int .i64 (3 * f + 1)) ∧ w' = w from by
    have := rnodes_any f w
    rw [nodesS_in h.fine.f1 h.fine.f4] at this
    exact this.mono fun _ _ he => ⟨he.1, he.2.symm⟩))
  have hB0 : Below w.heap.size w (w.alloc (.cells #[.int .i64 r.cl, .int .i64 r.tm, .int .i64 r.kd, .int .i64 r.ky, .int .i64 r.vl, .int .i64 r.sg] 25)) := (Below.refl _ _).alloc (Nat.le_refl _) _
  have HB0 := Lib.hid hB0
  have HT := Lib.hid (fun m => (h.below hB0).drewN m)
  have HX := Lib.hid (Blk.new w 25 #[.int .i64 r.cl, .int .i64 r.tm, .int .i64 r.kd, .int .i64 r.ky, .int .i64 r.vl, .int .i64 r.sg])
  obtain ⟨w1, hw1⟩ : ∃ w1, (w.alloc (.cells #[.int .i64 r.cl, .int .i64 r.tm, .int .i64 r.kd, .int .i64 r.ky, .int .i64 r.vl, .int .i64 r.sg] 25)) = w1 := ⟨_, rfl⟩
  have HW1 := Lib.hid hw1
  rw [hw1] at HB0 HT HX
  clear hw1 hB0
  have k0 := fun (m : Nat) => (show (w1.drewN m).cell? ⟨pb, 0, none⟩ = some (.int .i64 f) from (HT.out m).blk.cell 0)
  have k1 := fun (m : Nat) => (show (w1.drewN m).cell? ⟨pb, 1, none⟩ = some (.int .i64 n) from (HT.out m).blk.cell 1)
  have d0 := fun (m : Nat) => (show (w1.drewN m).cell? ⟨w.heap.size, 0, none⟩ = some (.int .i64 r.cl) from HX.out.cell 0)
  have d1 := fun (m : Nat) => (show (w1.drewN m).cell? ⟨w.heap.size, 1, none⟩ = some (.int .i64 r.tm) from HX.out.cell 1)
  have d2 := fun (m : Nat) => (show (w1.drewN m).cell? ⟨w.heap.size, 2, none⟩ = some (.int .i64 r.kd) from HX.out.cell 2)
  have d3 := fun (m : Nat) => (show (w1.drewN m).cell? ⟨w.heap.size, 3, none⟩ = some (.int .i64 r.ky) from HX.out.cell 3)
  have d4 := fun (m : Nat) => (show (w1.drewN m).cell? ⟨w.heap.size, 4, none⟩ = some (.int .i64 r.vl) from HX.out.cell 4)
  have d5 := fun (m : Nat) => (show (w1.drewN m).cell? ⟨w.heap.size, 5, none⟩ = some (.int .i64 r.sg) from HX.out.cell 5)
  have l0 := k0 0
  have l1 := k1 0
  have m0 := d0 0
  have g1 : decide (r.cl < 0) = false := decide_eq_false (by omega)
  have g2 : decide (n ≤ r.cl) = false := decide_eq_false (by omega)
  have g3 : decide (nd < 0) = false := decide_eq_false (by omega)
  have g4 : decide (3 * f + 1 ≤ nd) = false := decide_eq_false (by omega)
  have hnd13 : 0 ≤ nd ∧ nd < 13 := by have := h.fine.f4; omega
  have HWk := Lib.hid (fun w => rweak_any f w)
  rw [weakS_in h.fine.f1 h.fine.f4] at HWk
  obtain ⟨i0, hi0, hx0, hx1, hx2⟩ := info_parts info_td
  obtain ⟨j0, hj0, hy0, hy1, hy2⟩ := info_parts int_info
  have hm := h.most
  have HOne := Lib.hid (td_one D fun d hd => own_slice_one (h.nod d hd))
  have HVl := Lib.hid (fun j hj => (h.row.lt j hj).2)
  have HH := Lib.hid h
  have HF := Lib.hid (fun m => qfind_any (HT.out m) r)
  rw [show findT (trs D) r = -1 from if_neg (by rw [hh]; simp)] at HF
  obtain ⟨A, c, rfl, -, -⟩ := own_slice h.row
  obtain ⟨n0, hn0⟩ : ∃ n0, D.length = n0 := ⟨_, rfl⟩
  have HN0 := Lib.hid hn0
  have HPp := Lib.hid hp
  clear hp
  rw [hn0] at hm HH HT HVl
  have HC := Lib.hid hc
  clear h hc hn0 hh
  obtain ⟨gt, hgt⟩ : ∃ g, w.heap.size = g := ⟨_, rfl⟩
  rw [hgt] at d0 d1 d2 d3 d4 d5 m0 HX HB0
  go_enter Try.func33, Try.ntmps33
  go_wp2_with fail
  rw [HW1.out]
  go_quiet ((go_at_call 20; exact Calls.quiet_of_same (HN.out _)))
  clear g1 g2 g3 g4
  go_wp2_with fail
  refine (HF.out nq).mono ?_
  rintro e w3 ⟨rfl, hb3⟩
  have HB3 := Lib.hid (show Below w.heap.size w w3 from hgt ▸ HB0.out.trans (Below.trans (⟨rfl, rfl, rfl, Nat.le_refl _, fun _ _ => rfl⟩ : Below gt w1 (w1.drewN nq)) (hb3.mono (show gt ≤ (w1.drewN nq).heap.size from hgt ▸ HB0.out.size))))
  have HT3 := Lib.hid ((HT.out nq).below hb3)
  have HX3 := Lib.hid (show Blk w3 gt 25 #[.int .i64 r.cl, .int .i64 r.tm, .int .i64 r.kd, .int .i64 r.ky, .int .i64 r.vl, .int .i64 r.sg] from Blk.below (show Blk (w1.drewN nq) gt 25 #[.int .i64 r.cl, .int .i64 r.tm, .int .i64 r.kd, .int .i64 r.ky, .int .i64 r.vl, .int .i64 r.sg] from HX.out.drewN nq) hb3 (show gt < w1.heap.size from HX.out.lt))
  have q2 : w3.cell? ⟨pb, 2, none⟩ = some (.slice A n0 c) := HT3.out.blk.cell 2
  have HTL := Lib.hid (show (tdCells D).length = n0 * 8 by rw [tdCells_len, HN0.out])
  have hrow := HT3.out.row
  rw [HN0.out] at hrow
  have HHas := Lib.hid (has_rows hrow)
  have HNon := Lib.hid (town_none hrow)
  clear hrow
  have HM1 := Lib.hid (show 0 + n0 ≤ maxLen by unfold maxLen; omega)
  have HM2 := Lib.hid (show (0 + n0) * 80 ≤ 140737488355328 by omega)
  have HM3 := Lib.hid HB3.out.size
  clear hb3 k0 k1 d0 d1 d2 d3 d4 d5 l0 l1 m0
  go_wp2_with (at_builtin; refine wpList_apps rfl _ _ 44 rfl w.heap.size 75 i0 _ 8 80 Try.underlying44 hi0 hx0 hx1 hx2 rfl (by decide) (.slice none 0 0) 0 [] rfl (World.ownsRow_nil _ _ _ _) _ A n0 c (tdCells D) rfl HTL.out HHas.out HNon.out HOne.out HM1.out HM2.out HM3.out ?_)
  intro v5 w5 ho5 hg5 _
  try rw [Nat.zero_add, List.nil_append] at ho5
  try rw [← hgt] at ho5
  have hb5 : Below w3.heap.size w3 w5 := (Below.refl _ _).grown hg5 (Nat.le_refl _) (fun k hk => by cases hk)
  have HB5 := Lib.hid (HB3.out.trans (hb5.mono HB3.out.size))
  have HT5 := Lib.hid (HT3.out.below hb5)
  have HX5 := Lib.hid (HX3.out.below hb5 HX3.out.lt)
  clear hg5 hb5 q2
  obtain ⟨A5, c5, rfl, h5a, h5b⟩ := own_slice ho5
  have HH5 := Lib.hid (has_rows ho5)
  have HO5 := Lib.hid ho5
  clear ho5
  go_wp2_with fail
  go_loopw [14, 15] (fun y x wr => ∃ (i m q : Nat), x = .int .i64 i ∧ y = .int .i64 m ∧ i ≤ n0 ∧ m ≤ i ∧ Hid (wr = w5.drewN q) ∧ Hid (m = pend ((trs D).take i) r.cl)) (fun _ x _ => n0 - (intOf x).toNat)
  case atStart => exact ⟨0, 0, 0, rfl, rfl, Nat.zero_le _, Nat.le_refl _, rfl, rfl⟩
  case round =>
    obtain ⟨i, m, q, rfl, rfl, hi, hmi, HW, HPe⟩ := hrel
    by_cases hlt : i < n0
    · have hkL : i < D.length := by rw [HN0.out]; exact hlt
      have hhr : Has wr w5.heap.size A5 (tdCells D) := by rw [HW.out]; exact HH5.out.drewN q
      obtain ⟨ad, rfl, -, hR⟩ := td_at hhr hkL
      have HX := Lib.hid (show D[i]? = some D[i] from List.getElem?_eq_getElem hkL)
      obtain ⟨y, hy⟩ : ∃ y, D[i] = y := ⟨_, rfl⟩
      rw [hy] at hR HX
      have c0 := hR.c0
      have hbx : Blk wr gt 25 #[.int .i64 r.cl, .int .i64 r.tm, .int .i64 r.kd, .int .i64 r.ky, .int .i64 r.vl, .int .i64 r.sg] := by rw [HW.out]; exact HX5.out.drewN q
      have b0 : wr.cell? ⟨gt, 0, none⟩ = some (.int .i64 r.cl) := hbx.cell 0
      have HPn := Lib.hid (pend_next (c := r.cl) (trs_get HX.out))
      have hii : (i : Int) < (n0 : Int) := by omega
      clear hR hy hkL hbx hhr
      by_cases e : y.x.rq.cl = r.cl
      · have hg : (y.x.rq.cl == r.cl) = true := by simpa using e
        have HP2 := Lib.hid (show m + 1 = pend ((trs D).take (i + 1)) r.cl by rw [HPn.out, ← HPe.out, if_pos e])
        clear e
        go_wp2_with fail
        go_quiet (fail)
        go_wp2_with fail
        go_roundw
        case rel => exact ⟨i + 1, m + 1, _, by go_num, by go_num, by omega, by omega, (show _ = w5.drewN _ by rw [HW.out, World.drewN_drewN]), HP2.out⟩
        case measure => simp [intOf]; omega
      · have hg : (y.x.rq.cl == r.cl) = false := by simpa using e
        have HP2 := Lib.hid (show m = pend ((trs D).take (i + 1)) r.cl by rw [HPn.out, ← HPe.out, if_neg e]; rfl)
        clear e
        go_wp2_with fail
        go_quiet (fail)
        go_wp2_with fail
        go_roundw
        case rel => exact ⟨i + 1, m, _, by go_num, rfl, by omega, by omega, (show _ = w5.drewN _ by rw [HW.out, World.drewN_drewN]), HP2.out⟩
        case measure => simp [intOf]; omega
    · obtain rfl : i = n0 := by omega
      have hmp : m = pend (trs D) r.cl := by have := HPe.out; rwa [List.take_of_length_le (by rw [trs_len, HN0.out]; exact Nat.le_refl _)] at this
      have hbq : Below w5.heap.size w5 wr := by rw [HW.out]; exact ⟨rfl, rfl, rfl, Nat.le_refl _, fun _ _ => rfl⟩
      have HBr := Lib.hid (HB5.out.trans (hbq.mono HB5.out.size))
      have hm4 : m = 4 := by rw [hmp]; exact HPp.out
      subst hm4
      clear hmp hbq
      go_wp2_with fail
      go_ret3
      exact ⟨rfl, hgt ▸ HBr.out⟩
set_option maxHeartbeats 16000000 in
set_option maxRecDepth 100000 in
theorem qput_new (h : Pw w pb f n v D) (r : Rq) (nd ck : Int) (hc : 0 ≤ r.cl ∧ r.cl < n ∧ 0 ≤ nd ∧ nd < 3 * f + 1) (hh : had (trs D) r = false) (hp : pend (trs D) r.cl ≠ 4) : Calls Try.prog 33 #[.pointer (some ⟨pb, 0, none⟩), .agg #[.int .i64 r.cl, .int .i64 r.tm, .int .i64 r.kd, .int .i64 r.ky, .int .i64 r.vl, .int .i64 r.sg], .int .i64 nd, .int .i64 ck] w (PutPost w pb f n D r nd ck) := by
  have HN := Lib.hid (fun (w : World) => (show Calls Try.prog 20 #[.int .i64 f] w fun e w' => e = .returned (.int .i64 (3 * f + 1)) ∧ w' = w from by
    have := rnodes_any f w
    rw [nodesS_in h.fine.f1 h.fine.f4] at this
    exact this.mono fun _ _ he => ⟨he.1, he.2.symm⟩))
  have hB0 : Below w.heap.size w (w.alloc (.cells #[.int .i64 r.cl, .int .i64 r.tm, .int .i64 r.kd, .int .i64 r.ky, .int .i64 r.vl, .int .i64 r.sg] 25)) := (Below.refl _ _).alloc (Nat.le_refl _) _
  have HB0 := Lib.hid hB0
  have HT := Lib.hid (fun m => (h.below hB0).drewN m)
  have HX := Lib.hid (Blk.new w 25 #[.int .i64 r.cl, .int .i64 r.tm, .int .i64 r.kd, .int .i64 r.ky, .int .i64 r.vl, .int .i64 r.sg])
  obtain ⟨w1, hw1⟩ : ∃ w1, (w.alloc (.cells #[.int .i64 r.cl, .int .i64 r.tm, .int .i64 r.kd, .int .i64 r.ky, .int .i64 r.vl, .int .i64 r.sg] 25)) = w1 := ⟨_, rfl⟩
  have HW1 := Lib.hid hw1
  rw [hw1] at HB0 HT HX
  clear hw1 hB0
  have k0 := fun (m : Nat) => (show (w1.drewN m).cell? ⟨pb, 0, none⟩ = some (.int .i64 f) from (HT.out m).blk.cell 0)
  have k1 := fun (m : Nat) => (show (w1.drewN m).cell? ⟨pb, 1, none⟩ = some (.int .i64 n) from (HT.out m).blk.cell 1)
  have d0 := fun (m : Nat) => (show (w1.drewN m).cell? ⟨w.heap.size, 0, none⟩ = some (.int .i64 r.cl) from HX.out.cell 0)
  have d1 := fun (m : Nat) => (show (w1.drewN m).cell? ⟨w.heap.size, 1, none⟩ = some (.int .i64 r.tm) from HX.out.cell 1)
  have d2 := fun (m : Nat) => (show (w1.drewN m).cell? ⟨w.heap.size, 2, none⟩ = some (.int .i64 r.kd) from HX.out.cell 2)
  have d3 := fun (m : Nat) => (show (w1.drewN m).cell? ⟨w.heap.size, 3, none⟩ = some (.int .i64 r.ky) from HX.out.cell 3)
  have d4 := fun (m : Nat) => (show (w1.drewN m).cell? ⟨w.heap.size, 4, none⟩ = some (.int .i64 r.vl) from HX.out.cell 4)
  have d5 := fun (m : Nat) => (show (w1.drewN m).cell? ⟨w.heap.size, 5, none⟩ = some (.int .i64 r.sg) from HX.out.cell 5)
  have l0 := k0 0
  have l1 := k1 0
  have m0 := d0 0
  have g1 : decide (r.cl < 0) = false := decide_eq_false (by omega)
  have g2 : decide (n ≤ r.cl) = false := decide_eq_false (by omega)
  have g3 : decide (nd < 0) = false := decide_eq_false (by omega)
  have g4 : decide (3 * f + 1 ≤ nd) = false := decide_eq_false (by omega)
  have hnd13 : 0 ≤ nd ∧ nd < 13 := by have := h.fine.f4; omega
  have HWk := Lib.hid (fun w => rweak_any f w)
  rw [weakS_in h.fine.f1 h.fine.f4] at HWk
  obtain ⟨i0, hi0, hx0, hx1, hx2⟩ := info_parts info_td
  obtain ⟨j0, hj0, hy0, hy1, hy2⟩ := info_parts int_info
  have hm := h.most
  have HOne := Lib.hid (td_one D fun d hd => own_slice_one (h.nod d hd))
  have HVl := Lib.hid (fun j hj => (h.row.lt j hj).2)
  have HH := Lib.hid h
  have HF := Lib.hid (fun m => qfind_any (HT.out m) r)
  rw [show findT (trs D) r = -1 from if_neg (by rw [hh]; simp)] at HF
  obtain ⟨A, c, rfl, -, -⟩ := own_slice h.row
  obtain ⟨n0, hn0⟩ : ∃ n0, D.length = n0 := ⟨_, rfl⟩
  have HN0 := Lib.hid hn0
  have HFin := Lib.hid (h.fine.put r nd ck)
  have HPTn := Lib.hid (fun (k : Nat) (hkD : k ≤ D.length) (hk : seat (trs D) r = k) (d' : Td) (b : Bool) (hm : mark f (bd r).x nd ck = (d'.x, b)) => show (putT f n (trs D) r nd ck).1 = (true, b, 0) ∧ trs ((putD D k (bd r)).set k d') = (putT f n (trs D) r nd ck).2 from by
    unfold putT
    rw [if_pos hc, if_neg (fun q => hp q.2), rowOf_no hh]
    have hm : mark f (blank r) nd ck = (d'.x, b) := hm
    rw [hm]
    refine ⟨by rw [hh]; rfl, ?_⟩
    show _ = upd (trs D) d'.x
    have hq : d'.x.rq = r := by
      have := mark_rq f (blank r) nd ck
      rw [hm] at this
      exact this
    unfold upd
    rw [hq, if_neg (by rw [hh]; simp), putD_set hkD, trs_put, hk])
  have HP4 := Lib.hid (show pend (trs D) r.cl < 4 by have := h.fine.four r.cl; omega)
  have HHad := Lib.hid hh
  clear hp
  rw [hn0] at hm HH HT HVl
  have HC := Lib.hid hc
  clear h hc hn0 hh
  obtain ⟨gt, hgt⟩ : ∃ g, w.heap.size = g := ⟨_, rfl⟩
  rw [hgt] at d0 d1 d2 d3 d4 d5 m0 HX HB0
  go_enter Try.func33, Try.ntmps33
  go_wp2_with fail
  rw [HW1.out]
  go_quiet ((go_at_call 20; exact Calls.quiet_of_same (HN.out _)))
  clear g1 g2 g3 g4
  go_wp2_with fail
  refine (HF.out nq).mono ?_
  rintro e w3 ⟨rfl, hb3⟩
  have HB3 := Lib.hid (show Below w.heap.size w w3 from hgt ▸ HB0.out.trans (Below.trans (⟨rfl, rfl, rfl, Nat.le_refl _, fun _ _ => rfl⟩ : Below gt w1 (w1.drewN nq)) (hb3.mono (show gt ≤ (w1.drewN nq).heap.size from hgt ▸ HB0.out.size))))
  have HT3 := Lib.hid ((HT.out nq).below hb3)
  have HX3 := Lib.hid (show Blk w3 gt 25 #[.int .i64 r.cl, .int .i64 r.tm, .int .i64 r.kd, .int .i64 r.ky, .int .i64 r.vl, .int .i64 r.sg] from Blk.below (show Blk (w1.drewN nq) gt 25 #[.int .i64 r.cl, .int .i64 r.tm, .int .i64 r.kd, .int .i64 r.ky, .int .i64 r.vl, .int .i64 r.sg] from HX.out.drewN nq) hb3 (show gt < w1.heap.size from HX.out.lt))
  have q2 : w3.cell? ⟨pb, 2, none⟩ = some (.slice A n0 c) := HT3.out.blk.cell 2
  have HTL := Lib.hid (show (tdCells D).length = n0 * 8 by rw [tdCells_len, HN0.out])
  have hrow := HT3.out.row
  rw [HN0.out] at hrow
  have HHas := Lib.hid (has_rows hrow)
  have HNon := Lib.hid (town_none hrow)
  clear hrow
  have HM1 := Lib.hid (show 0 + n0 ≤ maxLen by unfold maxLen; omega)
  have HM2 := Lib.hid (show (0 + n0) * 80 ≤ 140737488355328 by omega)
  have HM3 := Lib.hid HB3.out.size
  clear hb3 k0 k1 d0 d1 d2 d3 d4 d5 l0 l1 m0
  go_wp2_with (at_builtin; refine wpList_apps rfl _ _ 44 rfl w.heap.size 75 i0 _ 8 80 Try.underlying44 hi0 hx0 hx1 hx2 rfl (by decide) (.slice none 0 0) 0 [] rfl (World.ownsRow_nil _ _ _ _) _ A n0 c (tdCells D) rfl HTL.out HHas.out HNon.out HOne.out HM1.out HM2.out HM3.out ?_)
  intro v5 w5 ho5 hg5 _
  try rw [Nat.zero_add, List.nil_append] at ho5
  try rw [← hgt] at ho5
  have hb5 : Below w3.heap.size w3 w5 := (Below.refl _ _).grown hg5 (Nat.le_refl _) (fun k hk => by cases hk)
  have HB5 := Lib.hid (HB3.out.trans (hb5.mono HB3.out.size))
  have HT5 := Lib.hid (HT3.out.below hb5)
  have HX5 := Lib.hid (HX3.out.below hb5 HX3.out.lt)
  clear hg5 hb5 q2
  obtain ⟨A5, c5, rfl, h5a, h5b⟩ := own_slice ho5
  have HH5 := Lib.hid (has_rows ho5)
  have HO5 := Lib.hid ho5
  clear ho5
  go_wp2_with fail
  go_loopw [14, 15] (fun y x wr => ∃ (i m q : Nat), x = .int .i64 i ∧ y = .int .i64 m ∧ i ≤ n0 ∧ m ≤ i ∧ Hid (wr = w5.drewN q) ∧ Hid (m = pend ((trs D).take i) r.cl)) (fun _ x _ => n0 - (intOf x).toNat)
  case atStart => exact ⟨0, 0, 0, rfl, rfl, Nat.zero_le _, Nat.le_refl _, rfl, rfl⟩
  case round =>
    obtain ⟨i, m, q, rfl, rfl, hi, hmi, HW, HPe⟩ := hrel
    by_cases hlt : i < n0
    · have hkL : i < D.length := by rw [HN0.out]; exact hlt
      have hhr : Has wr w5.heap.size A5 (tdCells D) := by rw [HW.out]; exact HH5.out.drewN q
      obtain ⟨ad, rfl, -, hR⟩ := td_at hhr hkL
      have HX := Lib.hid (show D[i]? = some D[i] from List.getElem?_eq_getElem hkL)
      obtain ⟨y, hy⟩ : ∃ y, D[i] = y := ⟨_, rfl⟩
      rw [hy] at hR HX
      have c0 := hR.c0
      have hbx : Blk wr gt 25 #[.int .i64 r.cl, .int .i64 r.tm, .int .i64 r.kd, .int .i64 r.ky, .int .i64 r.vl, .int .i64 r.sg] := by rw [HW.out]; exact HX5.out.drewN q
      have b0 : wr.cell? ⟨gt, 0, none⟩ = some (.int .i64 r.cl) := hbx.cell 0
      have HPn := Lib.hid (pend_next (c := r.cl) (trs_get HX.out))
      have hii : (i : Int) < (n0 : Int) := by omega
      clear hR hy hkL hbx hhr
      by_cases e : y.x.rq.cl = r.cl
      · have hg : (y.x.rq.cl == r.cl) = true := by simpa using e
        have HP2 := Lib.hid (show m + 1 = pend ((trs D).take (i + 1)) r.cl by rw [HPn.out, ← HPe.out, if_pos e])
        clear e
        go_wp2_with fail
        go_quiet (fail)
        go_wp2_with fail
        go_roundw
        case rel => exact ⟨i + 1, m + 1, _, by go_num, by go_num, by omega, by omega, (show _ = w5.drewN _ by rw [HW.out, World.drewN_drewN]), HP2.out⟩
        case measure => simp [intOf]; omega
      · have hg : (y.x.rq.cl == r.cl) = false := by simpa using e
        have HP2 := Lib.hid (show m = pend ((trs D).take (i + 1)) r.cl by rw [HPn.out, ← HPe.out, if_neg e]; rfl)
        clear e
        go_wp2_with fail
        go_quiet (fail)
        go_wp2_with fail
        go_roundw
        case rel => exact ⟨i + 1, m, _, by go_num, rfl, by omega, by omega, (show _ = w5.drewN _ by rw [HW.out, World.drewN_drewN]), HP2.out⟩
        case measure => simp [intOf]; omega
    · obtain rfl : i = n0 := by omega
      have hmp : m = pend (trs D) r.cl := by have := HPe.out; rwa [List.take_of_length_le (by rw [trs_len, HN0.out]; exact Nat.le_refl _)] at this
      have hbq : Below w5.heap.size w5 wr := by rw [HW.out]; exact ⟨rfl, rfl, rfl, Nat.le_refl _, fun _ _ => rfl⟩
      have HBr := Lib.hid (HB5.out.trans (hbq.mono HB5.out.size))
      have hm4 : m < 4 := by rw [hmp]; exact HP4.out
      have g5 : decide ((4 : Int) ≤ (m : Int)) = false := decide_eq_false (by omega)
      have g6 : decide (4 ≤ m) = false := decide_eq_false (by omega)
      have HP0 := Lib.hid (show Pl3 w D gt r (.slice A5 i c5) i i wr from ⟨below_own HO5.out hbq (Nat.le_refl _), HBr.out, HX5.out.below hbq HX5.out.lt, by rw [rqs_len, trs_len, HN0.out]⟩)
      clear hmp HPe HW HH5 HO5 HX5 HT5 hbq HBr
      go_wp2_with fail
      go_loopw [11] (fun y wr => ∃ k : Nat, y = .int .i64 k ∧ k ≤ i ∧ Hid (Pl3 w D gt r (.slice A5 i c5) i k wr)) (fun y _ => (intOf y).toNat)
      case atStart => exact ⟨i, rfl, Nat.le_refl _, HP0.out⟩
      case round =>
        obtain ⟨k, rfl, hk, HP⟩ := hrel
        have hbx := HP.out.box
        have b0 := hbx.cell 0
        have b1 := hbx.cell 1
        have b2 := hbx.cell 2
        have b3 := hbx.cell 3
        have b4 := hbx.cell 4
        have b5 := hbx.cell 5
        simp only [List.getElem?_toArray, List.getElem?_cons_zero, List.getElem?_cons_succ] at b0 b1 b2 b3 b4 b5
        clear hbx
        by_cases hk0 : 0 < k
        · obtain ⟨j, hj⟩ : ∃ j, k - 1 = j := ⟨_, rfl⟩
          have hji : j < i := by omega
          have hjn : j < D.length := by rw [HN0.out]; exact hji
          obtain ⟨a2, rfl, -, hR⟩ := td_at (has_rows HP.out.own) hjn
          obtain ⟨y, hy⟩ : ∃ y, D[j] = y := ⟨_, rfl⟩
          rw [hy] at hR
          have hyj : D[j]? = some y := by rw [← hy]; exact List.getElem?_eq_getElem hjn
          have HY := Lib.hid (rqs_get (trs_get hyj))
          obtain ⟨e0, e1, e2, e3, e4, e5, -, -⟩ := hR
          obtain ⟨x, hx⟩ : ∃ x, y.x.rq = x := ⟨_, rfl⟩
          rw [hx] at HY e0 e1 e2 e3 e4 e5
          have HCm := Lib.hid (fun w => rcompare_any r x w)
          have HLow := Lib.hid (show Pl3 w D gt r (.slice (some a2) i c5) i k wr.drew from HP.out.below ⟨rfl, rfl, rfl, Nat.le_refl _, fun _ _ => rfl⟩)
          have HK := Lib.hid (show k = j + 1 by omega)
          have HIs := Lib.hid HP.out.is
          have hj1 : IntKind.i64.wrap ((k : Int) - 1) = (j : Int) := by rw [IntWalk.i64_in _ (by omega)]; omega
          have hg1 : decide (0 < k) = true := decide_eq_true hk0
          have hg1' : decide ((0 : Int) < (k : Int)) = true := decide_eq_true (by omega)
          have hji2 : (j : Int) < (i : Int) := by omega
          clear hj hy hyj hx hjn HP
          go_wp2_with fail
          go_still_tail 10, (by kernel_rfl)
          change wpList _ _ _ _ _ wr.drew
          by_cases hc : cmpR r x < 0
          · have HP2 := Lib.hid (show place r (rqs (trs D)) (rqs (trs D)).length = place r (rqs (trs D)) j by rw [HIs.out, HK.out, tplace_down HY.out hc])
            have hlt0 : decide (cmpR r x < 0) = true := decide_eq_true hc
            clear hc
            go_wp2_with fail
            refine (HCm.out _).mono ?_
            rintro e w3 ⟨rfl, hb3⟩
            have HP3 := Lib.hid ((HLow.out.below hb3).to HP2.out)
            clear hb3 HLow
            go_wp2_with fail
            go_roundw
            case rel => exact ⟨j, by have := HK.out; first | rfl | (congr 1; omega), by omega, HP3.out⟩
            case measure => have := HK.out; simp [intOf]; omega
          · have HP2 := Lib.hid (show place r (rqs (trs D)) (rqs (trs D)).length = k by rw [HIs.out, HK.out, tplace_stop HY.out hc])
            have hlt0 : decide (cmpR r x < 0) = false := decide_eq_false hc
            clear hc
            go_wp2_with fail
            refine (HCm.out _).mono ?_
            rintro e w3 ⟨rfl, hb3⟩
            have HP3 := Lib.hid (HLow.out.below hb3)
            clear hb3
            go_wp2_with fail
            clear hlt0 HLow b0 b1 b2 b3 b4 b5 e0 e1 e2 e3 e4 e5 hj1 HCm hg1 hg1'
            have HPk := Lib.hid (show seat (trs D) r = k from (place_seat HH.out.fine.ris HHad.out).symm.trans HP2.out)
            have R1 := fun (w : World) => tslice_head (w := w) (some a2) (n := i) (c := c5) (k := k) (by omega)
            have R2 := fun (w : World) => tslice_tail (w := w) (some a2) (n := i) (c := c5) hk
            have hbx := HP3.out.box
            have b0 := hbx.cell 0
            have b1 := hbx.cell 1
            have b2 := hbx.cell 2
            have b3 := hbx.cell 3
            have b4 := hbx.cell 4
            have b5 := hbx.cell 5
            simp only [List.getElem?_toArray, List.getElem?_cons_zero, List.getElem?_cons_succ] at b0 b1 b2 b3 b4 b5
            have hoX : (w3.drew.alloc (.cells #[.int .i64 r.cl, .int .i64 r.tm, .int .i64 r.kd, .int .i64 r.ky, .int .i64 r.vl, .int .i64 r.sg, .slice none 0 0, .int .i64 (-1)] 75)).ownsRow w3.drew.heap.size 75 8 (.slice (some ⟨w3.drew.heap.size, 0, none⟩) 1 1) 1 (tdCells [bd r]) := World.ownsRow_lit w3.drew #[.int .i64 r.cl, .int .i64 r.tm, .int .i64 r.kd, .int .i64 r.ky, .int .i64 r.vl, .int .i64 r.sg, .slice none 0 0, .int .i64 (-1)] 1 (Nat.le_refl _) (by unfold maxLen; omega) (by rfl)
            have hoO := HP3.out.own.drew.alloc (.cells #[.int .i64 r.cl, .int .i64 r.tm, .int .i64 r.kd, .int .i64 r.ky, .int .i64 r.vl, .int .i64 r.sg, .slice none 0 0, .int .i64 (-1)] 75)
            have HTl := Lib.hid (thas_tail (has_rows hoO) (by rw [HN0.out]; exact h5a) (by rw [HN0.out]; exact hk))
            have HTn := Lib.hid (fun e => ttail_none (k := k) (town_none hoO) e)
            have HTo := Lib.hid (td_one (D.drop k) (fun d hd => own_slice_one (HH.out.nod d (List.mem_of_mem_drop hd))))
            have HTLd := Lib.hid (show (tdCells (D.drop k)).length = (i - k) * 8 by rw [tdCells_len, List.length_drop, HN0.out])
            have HMg := Lib.hid (show 1 + (i - k) ≤ maxLen by unfold maxLen; omega)
            have HMh := Lib.hid (show (1 + (i - k)) * 80 ≤ 140737488355328 by omega)
            have HMi := Lib.hid (show k + (1 + (i - k)) ≤ maxLen by unfold maxLen; omega)
            have HMj := Lib.hid (show (k + (1 + (i - k))) * 80 ≤ 140737488355328 by omega)
            have HMk := Lib.hid (show w3.drew.heap.size ≤ (w3.drew.alloc (.cells #[.int .i64 r.cl, .int .i64 r.tm, .int .i64 r.kd, .int .i64 r.ky, .int .i64 r.vl, .int .i64 r.sg, .slice none 0 0, .int .i64 (-1)] 75)).heap.size by simp)
            have HTp := Lib.hid (show ∀ u ∈ tdCells [bd r] ++ tdCells (D.drop k), u.oneCell' = true from fun u hu => (List.mem_append.1 hu).elim (td_one [bd r] (fun d hd => by rw [List.mem_singleton.1 hd]; rfl) u) (HTo.out u))
            have HMl := Lib.hid (show w.heap.size ≤ (w3.drew.alloc (.cells #[.int .i64 r.cl, .int .i64 r.tm, .int .i64 r.kd, .int .i64 r.ky, .int .i64 r.vl, .int .i64 r.sg, .slice none 0 0, .int .i64 (-1)] 75)).heap.size by have := HP3.out.low.size; simp; omega)
            have HNE := Lib.hid (show (Value.slice (some a2) i c5).ownBlock ≠ some w3.heap.size from fun e => by have := (HP3.out.own.lt _ e).2; omega)
            have HLw := Lib.hid HP3.out.low
            clear HP3 hbx
            go_region_law (first
              | (refine step_apps rfl (.tmp 94) (.tmp 97) 44 rfl w3.drew.heap.size 75 i0 (.agg #[.int .i64 0, .int .i64 0, .int .i64 0, .int .i64 0, .int .i64 0, .int .i64 0, .slice none 0 0, .int .i64 0]) 8 80 Try.underlying44 hi0 hx0 hx1 hx2 rfl (by decide) (.slice (some ⟨w3.drew.heap.size, 0, none⟩) 1 1) 1 (tdCells [bd r]) rfl hoX _ (tailT (some a2) c5 k) (i - k) (c5 - k) (tdCells (D.drop k)) rfl HTLd.out HTl.out HTn.out HTo.out HMg.out HMh.out HMk.out ?_
                 intro vb w4 hob hgb hlb
                 obtain ⟨Ab, cb, rfl, _, _⟩ := own_slice hob
                 have hop := town_prefix (hoO.kept hgb (Or.inr HNE.out)) hk
                 have hbs := Nat.le_trans HMl.out hgb.size)
              | (refine step_apps rfl (.tmp 91) (.tmp 98) 44 rfl w.heap.size 75 i0 (.agg #[.int .i64 0, .int .i64 0, .int .i64 0, .int .i64 0, .int .i64 0, .int .i64 0, .slice none 0 0, .int .i64 0]) 8 80 Try.underlying44 hi0 hx0 hx1 hx2 rfl (by decide) (.slice (some a2) k c5) k ((tdCells D).take (k * 8)) rfl hop _ Ab (1 + (i - k)) cb (tdCells [bd r] ++ tdCells (D.drop k)) rfl (by rw [List.length_append, HTLd.out]; show 8 + _ = _; omega) (has_rows hob) (town_none hob) HTp.out HMi.out HMj.out hbs ?_
                 intro vc w11 hoc hgc hlc
                 obtain ⟨g, c1, rfl⟩ := own_form hoc (by omega)))
            obtain ⟨m1, hm1⟩ : ∃ m1, k + (1 + (i - k)) = m1 := ⟨_, rfl⟩
            rw [hm1] at hoc
            try rw [hm1]
            have hkD : k ≤ D.length := by rw [HN0.out]; exact hk
            have hQ := td_put HH.out HLw.out hkD (m1 := m1) (by rw [HN0.out]; omega) hgb hop hgc hoc
            have HKd := Lib.hid (putD_get hkD (bd r))
            have HOks := Lib.hid (show ∀ e ∈ putD D k (bd r), e.Ok f from fun e he => (putD_mem he).elim (fun h => h ▸ td_blank HH.out.fine.f1 r) (HH.out.ok e))
            have HL1 := Lib.hid (show (putD D k (bd r)).length = m1 by rw [putD_len hkD, HN0.out]; omega)
            have HK13 := Lib.hid (show (bd r).x.bs.length = 13 from rfl)
            have HPT := Lib.hid (fun (d' : Td) (b : Bool) (hm : mark f (bd r).x nd ck = (d'.x, b)) => HPTn.out k hkD HPk.out d' b hm)
            have HSt := Lib.hid (fun e => putD_set hkD (bd r) e)
            obtain ⟨d, hd⟩ : ∃ d, bd r = d := ⟨_, rfl⟩
            rw [hd] at hQ HKd HOks HL1 HK13 HPT HSt
            obtain ⟨D1, hD1⟩ : ∃ D1, putD D k d = D1 := ⟨_, rfl⟩
            rw [hD1] at hQ HKd HOks HL1 HPT HSt
            clear hob hgb hlb hop hbs hoc hgc hlc hoX hoO R1 R2 b0 b1 b2 b3 b4 b5 hm1 hd hD1 hkD
            have HQ := Lib.hid hQ
            have hnod := HQ.out.nod d (List.mem_of_getElem? HKd.out)
            have hdok := HOks.out d (List.mem_of_getElem? HKd.out)
            have HDok := Lib.hid hdok
            have hln13 : d.ns.length ≤ 13 := by
              rw [← hdok.len]
              exact Nat.le_trans (cnt_le _) (by rw [HK13.out]; exact Nat.le_refl _)
            obtain ⟨⟨e6, f6⟩, e7, f7⟩ := HQ.out.cell HKd.out
            obtain ⟨An, cn, hnv, -, -⟩ := own_slice hnod
            rw [hnv] at e6 hnod
            have HM := Lib.hid (ihas_any An cn d.ns nd _ w11 (by omega) (has_rows hnod))
            rw [hdok.mem nd] at HM
            have HHn := Lib.hid (has_rows hnod)
            have HNn := Lib.hid (town_none hnod)
            have p2 : w11.cell? ⟨pb, 2, none⟩ = some (.slice A i c) := HQ.out.tab.blk.cell 2
            have p2f : w11.frozen? ⟨pb, 2, none⟩ = false := HQ.out.tab.blk.frozen 2
            have hkm : k < m1 := by rw [← HL1.out]; exact (List.getElem?_eq_some_iff.1 HKd.out).1
            have hki : (k : Int) < (m1 : Int) := by omega
            obtain ⟨ln, hln⟩ : ∃ ln, d.ns.length = ln := ⟨_, rfl⟩
            have HLn := Lib.hid hln
            rw [hln] at HM e6 hln13 hnv
            have HNv := Lib.hid hnv
            clear hnod hdok hnv hln hQ
            cases hmk : marked d.x.bs nd
            · rw [hmk] at HM
              have HMk := Lib.hid hmk
              have HTLi := Lib.hid (show (ints d.ns).length = ln * 1 by unfold ints; rw [List.length_map, HLn.out, Nat.mul_one])
              have HOni := Lib.hid (show ∀ u ∈ ints d.ns, u.oneCell' = true from fun u hu => by
                obtain ⟨z, _, rfl⟩ := List.mem_map.1 hu
                rfl)
              have HMa := Lib.hid (show 0 + ln ≤ maxLen by unfold maxLen; omega)
              have HMb := Lib.hid (show (0 + ln) * 8 ≤ 140737488355328 by omega)
              have HMc := Lib.hid (Nat.le_refl w11.heap.size)
              clear hmk
              go_wp2_with fail
              refine HM.out.mono ?_
              rintro e w6 ⟨rfl, rfl⟩
              go_wp2_with (at_builtin; refine wpList_apps rfl _ _ 26 rfl w11.heap.size 3 j0 _ 1 8 Try.underlying26 hj0 hy0 hy1 hy2 rfl (by decide) (.slice none 0 0) 0 [] rfl (World.ownsRow_nil _ _ _ _) _ An ln cn (ints d.ns) rfl HTLi.out HHn.out HNn.out HOni.out HMa.out HMb.out HMc.out ?_)
              intro v7 w7 ho7 hg7 _
              try rw [Nat.zero_add, List.nil_append] at ho7
              have hb7 : Below w11.heap.size w11 w7 := (Below.refl _ _).grown hg7 (Nat.le_refl _) (fun k hk => by cases hk)
              obtain ⟨A7, c7, rfl, -, -⟩ := own_slice ho7
              have hba : Below w11.heap.size w11 (w7.alloc (.cells #[.int .i64 nd] 3)) := hb7.alloc hb7.size _
              have HBa := Lib.hid hba
              have HOw := Lib.hid (ho7.alloc (.cells #[.int .i64 nd] 3))
              have HNw := Lib.hid (show Has (w7.alloc (.cells #[.int .i64 nd] 3)) (w7.heap.size + 1) (some ⟨w7.heap.size, 0, none⟩) (ints [nd]) from Has.fresh w7 #[.int .i64 nd] 3)
              have HOn1 := Lib.hid (show ∀ u ∈ ints [nd], u.oneCell' = true from fun u hu => by
                obtain ⟨z, _, rfl⟩ := List.mem_map.1 hu
                rfl)
              have HMd := Lib.hid (show ln + 1 ≤ maxLen by unfold maxLen; omega)
              have HMe := Lib.hid (show (ln + 1) * 8 ≤ 140737488355328 by omega)
              have HMf := Lib.hid hba.size
              clear ho7 hg7 hb7 hba
              go_wp2_with (at_builtin; refine wpList_apps rfl _ _ 26 rfl w11.heap.size 3 j0 _ 1 8 Try.underlying26 hj0 hy0 hy1 hy2 rfl (by decide) _ _ _ rfl HOw.out _ (some ⟨w7.heap.size, 0, none⟩) 1 1 (ints [nd]) rfl rfl HNw.out (fun h => nomatch h) HOn1.out HMd.out HMe.out HMf.out ?_)
              intro v8 w8 ho8 hg8 _
              have hb8 : Below w11.heap.size w11 w8 := HBa.out.grown hg8 HMf.out (fun k hk => (HOw.out.lt k hk).1)
              have hQ8 := HQ.out.below hb8
              obtain ⟨z, hz⟩ : ∃ z, ln + 1 = z := ⟨_, rfl⟩
              rw [hz] at ho8
              have HZl := Lib.hid hz
              obtain ⟨A8, c8, rfl, -, -⟩ := own_slice ho8
              have hQ9 := hQ8.set_ HKd.out (d' := d.add nd (.slice A8 z c8)) (i := 6) (u := .slice A8 z c8) (by omega) rfl (by
                show w8.ownsRow 0 3 1 (.slice A8 z c8) (d.ns ++ [nd]).length (ints (d.ns ++ [nd]))
                rw [List.length_append, HLn.out, show ln + [nd].length = z from HZl.out, show ints (d.ns ++ [nd]) = ints d.ns ++ ints [nd] from List.map_append]
                exact own_down ho8 (Nat.zero_le _))
              have HKd9 := Lib.hid (show (D1.set k (d.add nd (.slice A8 z c8)))[k]? = some (d.add nd (.slice A8 z c8)) from List.getElem?_set_self (List.getElem?_eq_some_iff.1 HKd.out).1)
              obtain ⟨⟨s6, s6f⟩, -, -⟩ := hQ8.cell HKd.out
              rw [HNv.out] at s6
              have r2 : w8.cell? ⟨pb, 2, none⟩ = some (.slice A i c) := hQ8.tab.blk.cell 2
              obtain ⟨w9, hw9⟩ : ∃ w9, w8.setCell ⟨g, k * 8 + 6, none⟩ (.slice A8 z c8) = w9 := ⟨_, rfl⟩
              have HW9 := Lib.hid hw9
              rw [hw9] at hQ9
              have HQ9 := Lib.hid hQ9
              clear ho8 hg8 hb8 hz hQ8 hQ9 hw9
              go_wp2_with fail
              rw [HW9.out]
              obtain ⟨⟨t6, t6f⟩, t7, t7f⟩ := HQ9.out.cell HKd9.out
              have t6d : w9.drew.cell? ⟨g, k * 8 + 6, none⟩ = some (.slice A8 z c8) := t6
              have t0d : w9.drew.cell? ⟨pb, 0, none⟩ = some (.int .i64 f) := HQ9.out.tab.blk.cell 0
              obtain ⟨fw, hfw⟩ : ∃ fw, f + 1 = fw := ⟨_, rfl⟩
              rw [hfw] at HWk
              have HFw := Lib.hid hfw
              clear hfw s6 s6f r2 t6 t6f t7 t7f e6 f6 e7 f7 p2 p2f
              by_cases hq : (z : Int) = fw
              · have hqg : ((z : Int) == fw) = true := by simpa using hq
                obtain ⟨hok2, hmk2⟩ := HDok.out.just (v3 := .slice A8 z c8) (ck := ck) HK13.out hnd13 HMk.out (by have := HLn.out; have := HZl.out; have := HFw.out; omega)
                have hQ10 := (HQ9.out.drewN 1).set_ HKd9.out (d' := (d.add nd (.slice A8 z c8)).at_ ck) (i := 7) (u := .int .i64 ck) (by omega) rfl (by have := HQ9.out.nod _ (List.mem_of_getElem? HKd9.out); exact below_own this ⟨rfl, rfl, rfl, Nat.le_refl _, fun _ _ => rfl⟩ (Nat.le_refl _))
                rw [list_set_set] at hQ10
                obtain ⟨-, t7, t7f⟩ := (HQ9.out.drewN 1).cell HKd9.out
                have t7 : w9.drew.cell? ⟨g, k * 8 + 7, none⟩ = some (.int .i64 d.sc) := t7
                have t7f : w9.drew.frozen? ⟨g, k * 8 + 7, none⟩ = false := t7f
                have HZ := Lib.hid (put_done hQ10 HOks.out hok2 HL1.out (HPT.out _ _ hmk2).1 (HPT.out _ _ hmk2).2 HFin.out)
                have HZ := Lib.hid (show PutPost w pb f n D r nd ck (.returned (.tuple #[.bool true, .bool true, .int .i64 0])) (((w9.setCell ⟨g, k * 8 + 7, none⟩ (.int .i64 ck)).setCell ⟨pb, 2, none⟩ (.slice (some ⟨g, 0, none⟩) m1 c1)).drew) from HZ.out)
                have s2 : (w9.setCell ⟨g, k * 8 + 7, none⟩ (.int .i64 ck)).drew.cell? ⟨pb, 2, none⟩ = some (.slice A i c) := hQ10.tab.blk.cell 2
                have s2f : (w9.setCell ⟨g, k * 8 + 7, none⟩ (.int .i64 ck)).drew.frozen? ⟨pb, 2, none⟩ = false := hQ10.tab.blk.frozen 2
                have s2' : (w9.setCell ⟨g, k * 8 + 7, none⟩ (.int .i64 ck)).cell? ⟨pb, 2, none⟩ = some (.slice A i c) := hQ10.tab.blk.cell 2
                have s2f' : (w9.setCell ⟨g, k * 8 + 7, none⟩ (.int .i64 ck)).frozen? ⟨pb, 2, none⟩ = false := hQ10.tab.blk.frozen 2
                clear hq hok2 hmk2 hQ10
                go_wp2_with fail
                go_region_held3 (fun w' => w'.cell? ⟨g, k * 8 + 6, none⟩ = some (.slice A8 z c8) ∧ w'.cell? ⟨pb, 0, none⟩ = some (.int .i64 f)) (first | exact ⟨t6d, t0d⟩ | go_keep)
                  ((go_at_call 51; refine (HWk.out _).mono ?_; rintro e w3 ⟨rfl, rfl⟩))
                go_wp2_with fail
                go_ret3
                exact HZ.out
              · have hqg : ((z : Int) == fw) = false := by simpa using hq
                obtain ⟨hok2, hmk2⟩ := HDok.out.some_ (v3 := .slice A8 z c8) (ck := ck) HK13.out hnd13 HMk.out (by have := HLn.out; have := HZl.out; have := HFw.out; omega)
                have HZ := Lib.hid (put_done (HQ9.out.drewN 1) HOks.out hok2 HL1.out (HPT.out _ _ hmk2).1 (HPT.out _ _ hmk2).2 HFin.out)
                have HZ := Lib.hid (show PutPost w pb f n D r nd ck (.returned (.tuple #[.bool true, .bool false, .int .i64 0])) (w9.drew.setCell ⟨pb, 2, none⟩ (.slice (some ⟨g, 0, none⟩) m1 c1)) from HZ.out)
                have s2 : w9.drew.cell? ⟨pb, 2, none⟩ = some (.slice A i c) := HQ9.out.tab.blk.cell 2
                have s2f : w9.drew.frozen? ⟨pb, 2, none⟩ = false := HQ9.out.tab.blk.frozen 2
                clear hq hok2 hmk2
                go_wp2_with fail
                go_region_held3 (fun w' => w'.cell? ⟨g, k * 8 + 6, none⟩ = some (.slice A8 z c8) ∧ w'.cell? ⟨pb, 0, none⟩ = some (.int .i64 f)) (first | exact ⟨t6d, t0d⟩ | go_keep)
                  ((go_at_call 51; refine (HWk.out _).mono ?_; rintro e w3 ⟨rfl, rfl⟩))
                go_wp2_with fail
                go_ret3
                exact HZ.out
            · rw [hmk] at HM
              have hQs : Qt w pb f n (.slice A i c) D g c1 (D1.set k d) w11 := by rw [list_set_same HKd.out]; exact HQ.out
              have hmk2 := HDok.out.old (ck := ck) hmk
              have HZ := Lib.hid (put_done hQs HOks.out HDok.out HL1.out (HPT.out _ _ hmk2).1 (HPT.out _ _ hmk2).2 HFin.out)
              have HZ := Lib.hid (show PutPost w pb f n D r nd ck (.returned (.tuple #[.bool true, .bool false, .int .i64 0])) (w11.setCell ⟨pb, 2, none⟩ (.slice (some ⟨g, 0, none⟩) m1 c1)) from HZ.out)
              clear hmk hQs hmk2
              go_wp2_with fail
              refine HM.out.mono ?_
              rintro e w6 ⟨rfl, rfl⟩
              go_wp2_with fail
              go_ret3
              exact HZ.out
        · have HP2 := Lib.hid (show place r (rqs (trs D)) (rqs (trs D)).length = k by rw [HP.out.is, show k = 0 by omega]; rfl)
          have hg1 : decide (0 < k) = false := decide_eq_false hk0
          have hg1' : decide ((0 : Int) < (k : Int)) = false := decide_eq_false (by omega)
          have HPd := Lib.hid (fun m => show Pl3 w D gt r (.slice A5 i c5) i k (wr.drewN m) from HP.out.below ⟨rfl, rfl, rfl, Nat.le_refl _, fun _ _ => rfl⟩)
          clear HP b0 b1 b2 b3 b4 b5
          go_wp2_with fail
          go_quiet (fail)
          have HP3 := Lib.hid (HPd.out nq)
          obtain ⟨w3, hw3⟩ : ∃ w3, wr.drewN nq = w3 := ⟨_, rfl⟩
          rw [hw3] at HP3 ⊢
          clear hw3 HPd hg1 hg1'
          go_wp2_with fail
          have HPk := Lib.hid (show seat (trs D) r = k from (place_seat HH.out.fine.ris HHad.out).symm.trans HP2.out)
          have R1 := fun (w : World) => tslice_head (w := w) A5 (n := i) (c := c5) (k := k) (by omega)
          have R2 := fun (w : World) => tslice_tail (w := w) A5 (n := i) (c := c5) hk
          have hbx := HP3.out.box
          have b0 := hbx.cell 0
          have b1 := hbx.cell 1
          have b2 := hbx.cell 2
          have b3 := hbx.cell 3
          have b4 := hbx.cell 4
          have b5 := hbx.cell 5
          simp only [List.getElem?_toArray, List.getElem?_cons_zero, List.getElem?_cons_succ] at b0 b1 b2 b3 b4 b5
          have hoX : (w3.drew.alloc (.cells #[.int .i64 r.cl, .int .i64 r.tm, .int .i64 r.kd, .int .i64 r.ky, .int .i64 r.vl, .int .i64 r.sg, .slice none 0 0, .int .i64 (-1)] 75)).ownsRow w3.drew.heap.size 75 8 (.slice (some ⟨w3.drew.heap.size, 0, none⟩) 1 1) 1 (tdCells [bd r]) := World.ownsRow_lit w3.drew #[.int .i64 r.cl, .int .i64 r.tm, .int .i64 r.kd, .int .i64 r.ky, .int .i64 r.vl, .int .i64 r.sg, .slice none 0 0, .int .i64 (-1)] 1 (Nat.le_refl _) (by unfold maxLen; omega) (by rfl)
          have hoO := HP3.out.own.drew.alloc (.cells #[.int .i64 r.cl, .int .i64 r.tm, .int .i64 r.kd, .int .i64 r.ky, .int .i64 r.vl, .int .i64 r.sg, .slice none 0 0, .int .i64 (-1)] 75)
          have HTl := Lib.hid (thas_tail (has_rows hoO) (by rw [HN0.out]; exact h5a) (by rw [HN0.out]; exact hk))
          have HTn := Lib.hid (fun e => ttail_none (k := k) (town_none hoO) e)
          have HTo := Lib.hid (td_one (D.drop k) (fun d hd => own_slice_one (HH.out.nod d (List.mem_of_mem_drop hd))))
          have HTLd := Lib.hid (show (tdCells (D.drop k)).length = (i - k) * 8 by rw [tdCells_len, List.length_drop, HN0.out])
          have HMg := Lib.hid (show 1 + (i - k) ≤ maxLen by unfold maxLen; omega)
          have HMh := Lib.hid (show (1 + (i - k)) * 80 ≤ 140737488355328 by omega)
          have HMi := Lib.hid (show k + (1 + (i - k)) ≤ maxLen by unfold maxLen; omega)
          have HMj := Lib.hid (show (k + (1 + (i - k))) * 80 ≤ 140737488355328 by omega)
          have HMk := Lib.hid (show w3.drew.heap.size ≤ (w3.drew.alloc (.cells #[.int .i64 r.cl, .int .i64 r.tm, .int .i64 r.kd, .int .i64 r.ky, .int .i64 r.vl, .int .i64 r.sg, .slice none 0 0, .int .i64 (-1)] 75)).heap.size by simp)
          have HTp := Lib.hid (show ∀ u ∈ tdCells [bd r] ++ tdCells (D.drop k), u.oneCell' = true from fun u hu => (List.mem_append.1 hu).elim (td_one [bd r] (fun d hd => by rw [List.mem_singleton.1 hd]; rfl) u) (HTo.out u))
          have HMl := Lib.hid (show w.heap.size ≤ (w3.drew.alloc (.cells #[.int .i64 r.cl, .int .i64 r.tm, .int .i64 r.kd, .int .i64 r.ky, .int .i64 r.vl, .int .i64 r.sg, .slice none 0 0, .int .i64 (-1)] 75)).heap.size by have := HP3.out.low.size; simp; omega)
          have HNE := Lib.hid (show (Value.slice A5 i c5).ownBlock ≠ some w3.heap.size from fun e => by have := (HP3.out.own.lt _ e).2; omega)
          have HLw := Lib.hid HP3.out.low
          clear HP3 hbx
          go_region_law (first
            | (refine step_apps rfl (.tmp 94) (.tmp 97) 44 rfl w3.drew.heap.size 75 i0 (.agg #[.int .i64 0, .int .i64 0, .int .i64 0, .int .i64 0, .int .i64 0, .int .i64 0, .slice none 0 0, .int .i64 0]) 8 80 Try.underlying44 hi0 hx0 hx1 hx2 rfl (by decide) (.slice (some ⟨w3.drew.heap.size, 0, none⟩) 1 1) 1 (tdCells [bd r]) rfl hoX _ (tailT A5 c5 k) (i - k) (c5 - k) (tdCells (D.drop k)) rfl HTLd.out HTl.out HTn.out HTo.out HMg.out HMh.out HMk.out ?_
               intro vb w4 hob hgb hlb
               obtain ⟨Ab, cb, rfl, _, _⟩ := own_slice hob
               have hop := town_prefix (hoO.kept hgb (Or.inr HNE.out)) hk
               have hbs := Nat.le_trans HMl.out hgb.size)
            | (refine step_apps rfl (.tmp 91) (.tmp 98) 44 rfl w.heap.size 75 i0 (.agg #[.int .i64 0, .int .i64 0, .int .i64 0, .int .i64 0, .int .i64 0, .int .i64 0, .slice none 0 0, .int .i64 0]) 8 80 Try.underlying44 hi0 hx0 hx1 hx2 rfl (by decide) (.slice A5 k c5) k ((tdCells D).take (k * 8)) rfl hop _ Ab (1 + (i - k)) cb (tdCells [bd r] ++ tdCells (D.drop k)) rfl (by rw [List.length_append, HTLd.out]; show 8 + _ = _; omega) (has_rows hob) (town_none hob) HTp.out HMi.out HMj.out hbs ?_
               intro vc w11 hoc hgc hlc
               obtain ⟨g, c1, rfl⟩ := own_form hoc (by omega)))
          obtain ⟨m1, hm1⟩ : ∃ m1, k + (1 + (i - k)) = m1 := ⟨_, rfl⟩
          rw [hm1] at hoc
          try rw [hm1]
          have hkD : k ≤ D.length := by rw [HN0.out]; exact hk
          have hQ := td_put HH.out HLw.out hkD (m1 := m1) (by rw [HN0.out]; omega) hgb hop hgc hoc
          have HKd := Lib.hid (putD_get hkD (bd r))
          have HOks := Lib.hid (show ∀ e ∈ putD D k (bd r), e.Ok f from fun e he => (putD_mem he).elim (fun h => h ▸ td_blank HH.out.fine.f1 r) (HH.out.ok e))
          have HL1 := Lib.hid (show (putD D k (bd r)).length = m1 by rw [putD_len hkD, HN0.out]; omega)
          have HK13 := Lib.hid (show (bd r).x.bs.length = 13 from rfl)
          have HPT := Lib.hid (fun (d' : Td) (b : Bool) (hm : mark f (bd r).x nd ck = (d'.x, b)) => HPTn.out k hkD HPk.out d' b hm)
          have HSt := Lib.hid (fun e => putD_set hkD (bd r) e)
          obtain ⟨d, hd⟩ : ∃ d, bd r = d := ⟨_, rfl⟩
          rw [hd] at hQ HKd HOks HL1 HK13 HPT HSt
          obtain ⟨D1, hD1⟩ : ∃ D1, putD D k d = D1 := ⟨_, rfl⟩
          rw [hD1] at hQ HKd HOks HL1 HPT HSt
          clear hob hgb hlb hop hbs hoc hgc hlc hoX hoO R1 R2 b0 b1 b2 b3 b4 b5 hm1 hd hD1 hkD
          have HQ := Lib.hid hQ
          have hnod := HQ.out.nod d (List.mem_of_getElem? HKd.out)
          have hdok := HOks.out d (List.mem_of_getElem? HKd.out)
          have HDok := Lib.hid hdok
          have hln13 : d.ns.length ≤ 13 := by
            rw [← hdok.len]
            exact Nat.le_trans (cnt_le _) (by rw [HK13.out]; exact Nat.le_refl _)
          obtain ⟨⟨e6, f6⟩, e7, f7⟩ := HQ.out.cell HKd.out
          obtain ⟨An, cn, hnv, -, -⟩ := own_slice hnod
          rw [hnv] at e6 hnod
          have HM := Lib.hid (ihas_any An cn d.ns nd _ w11 (by omega) (has_rows hnod))
          rw [hdok.mem nd] at HM
          have HHn := Lib.hid (has_rows hnod)
          have HNn := Lib.hid (town_none hnod)
          have p2 : w11.cell? ⟨pb, 2, none⟩ = some (.slice A i c) := HQ.out.tab.blk.cell 2
          have p2f : w11.frozen? ⟨pb, 2, none⟩ = false := HQ.out.tab.blk.frozen 2
          have hkm : k < m1 := by rw [← HL1.out]; exact (List.getElem?_eq_some_iff.1 HKd.out).1
          have hki : (k : Int) < (m1 : Int) := by omega
          obtain ⟨ln, hln⟩ : ∃ ln, d.ns.length = ln := ⟨_, rfl⟩
          have HLn := Lib.hid hln
          rw [hln] at HM e6 hln13 hnv
          have HNv := Lib.hid hnv
          clear hnod hdok hnv hln hQ
          cases hmk : marked d.x.bs nd
          · rw [hmk] at HM
            have HMk := Lib.hid hmk
            have HTLi := Lib.hid (show (ints d.ns).length = ln * 1 by unfold ints; rw [List.length_map, HLn.out, Nat.mul_one])
            have HOni := Lib.hid (show ∀ u ∈ ints d.ns, u.oneCell' = true from fun u hu => by
              obtain ⟨z, _, rfl⟩ := List.mem_map.1 hu
              rfl)
            have HMa := Lib.hid (show 0 + ln ≤ maxLen by unfold maxLen; omega)
            have HMb := Lib.hid (show (0 + ln) * 8 ≤ 140737488355328 by omega)
            have HMc := Lib.hid (Nat.le_refl w11.heap.size)
            clear hmk
            go_wp2_with fail
            refine HM.out.mono ?_
            rintro e w6 ⟨rfl, rfl⟩
            go_wp2_with (at_builtin; refine wpList_apps rfl _ _ 26 rfl w11.heap.size 3 j0 _ 1 8 Try.underlying26 hj0 hy0 hy1 hy2 rfl (by decide) (.slice none 0 0) 0 [] rfl (World.ownsRow_nil _ _ _ _) _ An ln cn (ints d.ns) rfl HTLi.out HHn.out HNn.out HOni.out HMa.out HMb.out HMc.out ?_)
            intro v7 w7 ho7 hg7 _
            try rw [Nat.zero_add, List.nil_append] at ho7
            have hb7 : Below w11.heap.size w11 w7 := (Below.refl _ _).grown hg7 (Nat.le_refl _) (fun k hk => by cases hk)
            obtain ⟨A7, c7, rfl, -, -⟩ := own_slice ho7
            have hba : Below w11.heap.size w11 (w7.alloc (.cells #[.int .i64 nd] 3)) := hb7.alloc hb7.size _
            have HBa := Lib.hid hba
            have HOw := Lib.hid (ho7.alloc (.cells #[.int .i64 nd] 3))
            have HNw := Lib.hid (show Has (w7.alloc (.cells #[.int .i64 nd] 3)) (w7.heap.size + 1) (some ⟨w7.heap.size, 0, none⟩) (ints [nd]) from Has.fresh w7 #[.int .i64 nd] 3)
            have HOn1 := Lib.hid (show ∀ u ∈ ints [nd], u.oneCell' = true from fun u hu => by
              obtain ⟨z, _, rfl⟩ := List.mem_map.1 hu
              rfl)
            have HMd := Lib.hid (show ln + 1 ≤ maxLen by unfold maxLen; omega)
            have HMe := Lib.hid (show (ln + 1) * 8 ≤ 140737488355328 by omega)
            have HMf := Lib.hid hba.size
            clear ho7 hg7 hb7 hba
            go_wp2_with (at_builtin; refine wpList_apps rfl _ _ 26 rfl w11.heap.size 3 j0 _ 1 8 Try.underlying26 hj0 hy0 hy1 hy2 rfl (by decide) _ _ _ rfl HOw.out _ (some ⟨w7.heap.size, 0, none⟩) 1 1 (ints [nd]) rfl rfl HNw.out (fun h => nomatch h) HOn1.out HMd.out HMe.out HMf.out ?_)
            intro v8 w8 ho8 hg8 _
            have hb8 : Below w11.heap.size w11 w8 := HBa.out.grown hg8 HMf.out (fun k hk => (HOw.out.lt k hk).1)
            have hQ8 := HQ.out.below hb8
            obtain ⟨z, hz⟩ : ∃ z, ln + 1 = z := ⟨_, rfl⟩
            rw [hz] at ho8
            have HZl := Lib.hid hz
            obtain ⟨A8, c8, rfl, -, -⟩ := own_slice ho8
            have hQ9 := hQ8.set_ HKd.out (d' := d.add nd (.slice A8 z c8)) (i := 6) (u := .slice A8 z c8) (by omega) rfl (by
              show w8.ownsRow 0 3 1 (.slice A8 z c8) (d.ns ++ [nd]).length (ints (d.ns ++ [nd]))
              rw [List.length_append, HLn.out, show ln + [nd].length = z from HZl.out, show ints (d.ns ++ [nd]) = ints d.ns ++ ints [nd] from List.map_append]
              exact own_down ho8 (Nat.zero_le _))
            have HKd9 := Lib.hid (show (D1.set k (d.add nd (.slice A8 z c8)))[k]? = some (d.add nd (.slice A8 z c8)) from List.getElem?_set_self (List.getElem?_eq_some_iff.1 HKd.out).1)
            obtain ⟨⟨s6, s6f⟩, -, -⟩ := hQ8.cell HKd.out
            rw [HNv.out] at s6
            have r2 : w8.cell? ⟨pb, 2, none⟩ = some (.slice A i c) := hQ8.tab.blk.cell 2
            obtain ⟨w9, hw9⟩ : ∃ w9, w8.setCell ⟨g, k * 8 + 6, none⟩ (.slice A8 z c8) = w9 := ⟨_, rfl⟩
            have HW9 := Lib.hid hw9
            rw [hw9] at hQ9
            have HQ9 := Lib.hid hQ9
            clear ho8 hg8 hb8 hz hQ8 hQ9 hw9
            go_wp2_with fail
            rw [HW9.out]
            obtain ⟨⟨t6, t6f⟩, t7, t7f⟩ := HQ9.out.cell HKd9.out
            have t6d : w9.drew.cell? ⟨g, k * 8 + 6, none⟩ = some (.slice A8 z c8) := t6
            have t0d : w9.drew.cell? ⟨pb, 0, none⟩ = some (.int .i64 f) := HQ9.out.tab.blk.cell 0
            obtain ⟨fw, hfw⟩ : ∃ fw, f + 1 = fw := ⟨_, rfl⟩
            rw [hfw] at HWk
            have HFw := Lib.hid hfw
            clear hfw s6 s6f r2 t6 t6f t7 t7f e6 f6 e7 f7 p2 p2f
            by_cases hq : (z : Int) = fw
            · have hqg : ((z : Int) == fw) = true := by simpa using hq
              obtain ⟨hok2, hmk2⟩ := HDok.out.just (v3 := .slice A8 z c8) (ck := ck) HK13.out hnd13 HMk.out (by have := HLn.out; have := HZl.out; have := HFw.out; omega)
              have hQ10 := (HQ9.out.drewN 1).set_ HKd9.out (d' := (d.add nd (.slice A8 z c8)).at_ ck) (i := 7) (u := .int .i64 ck) (by omega) rfl (by have := HQ9.out.nod _ (List.mem_of_getElem? HKd9.out); exact below_own this ⟨rfl, rfl, rfl, Nat.le_refl _, fun _ _ => rfl⟩ (Nat.le_refl _))
              rw [list_set_set] at hQ10
              obtain ⟨-, t7, t7f⟩ := (HQ9.out.drewN 1).cell HKd9.out
              have t7 : w9.drew.cell? ⟨g, k * 8 + 7, none⟩ = some (.int .i64 d.sc) := t7
              have t7f : w9.drew.frozen? ⟨g, k * 8 + 7, none⟩ = false := t7f
              have HZ := Lib.hid (put_done hQ10 HOks.out hok2 HL1.out (HPT.out _ _ hmk2).1 (HPT.out _ _ hmk2).2 HFin.out)
              have HZ := Lib.hid (show PutPost w pb f n D r nd ck (.returned (.tuple #[.bool true, .bool true, .int .i64 0])) (((w9.setCell ⟨g, k * 8 + 7, none⟩ (.int .i64 ck)).setCell ⟨pb, 2, none⟩ (.slice (some ⟨g, 0, none⟩) m1 c1)).drew) from HZ.out)
              have s2 : (w9.setCell ⟨g, k * 8 + 7, none⟩ (.int .i64 ck)).drew.cell? ⟨pb, 2, none⟩ = some (.slice A i c) := hQ10.tab.blk.cell 2
              have s2f : (w9.setCell ⟨g, k * 8 + 7, none⟩ (.int .i64 ck)).drew.frozen? ⟨pb, 2, none⟩ = false := hQ10.tab.blk.frozen 2
              have s2' : (w9.setCell ⟨g, k * 8 + 7, none⟩ (.int .i64 ck)).cell? ⟨pb, 2, none⟩ = some (.slice A i c) := hQ10.tab.blk.cell 2
              have s2f' : (w9.setCell ⟨g, k * 8 + 7, none⟩ (.int .i64 ck)).frozen? ⟨pb, 2, none⟩ = false := hQ10.tab.blk.frozen 2
              clear hq hok2 hmk2 hQ10
              go_wp2_with fail
              go_region_held3 (fun w' => w'.cell? ⟨g, k * 8 + 6, none⟩ = some (.slice A8 z c8) ∧ w'.cell? ⟨pb, 0, none⟩ = some (.int .i64 f)) (first | exact ⟨t6d, t0d⟩ | go_keep)
                ((go_at_call 51; refine (HWk.out _).mono ?_; rintro e w3 ⟨rfl, rfl⟩))
              go_wp2_with fail
              go_ret3
              exact HZ.out
            · have hqg : ((z : Int) == fw) = false := by simpa using hq
              obtain ⟨hok2, hmk2⟩ := HDok.out.some_ (v3 := .slice A8 z c8) (ck := ck) HK13.out hnd13 HMk.out (by have := HLn.out; have := HZl.out; have := HFw.out; omega)
              have HZ := Lib.hid (put_done (HQ9.out.drewN 1) HOks.out hok2 HL1.out (HPT.out _ _ hmk2).1 (HPT.out _ _ hmk2).2 HFin.out)
              have HZ := Lib.hid (show PutPost w pb f n D r nd ck (.returned (.tuple #[.bool true, .bool false, .int .i64 0])) (w9.drew.setCell ⟨pb, 2, none⟩ (.slice (some ⟨g, 0, none⟩) m1 c1)) from HZ.out)
              have s2 : w9.drew.cell? ⟨pb, 2, none⟩ = some (.slice A i c) := HQ9.out.tab.blk.cell 2
              have s2f : w9.drew.frozen? ⟨pb, 2, none⟩ = false := HQ9.out.tab.blk.frozen 2
              clear hq hok2 hmk2
              go_wp2_with fail
              go_region_held3 (fun w' => w'.cell? ⟨g, k * 8 + 6, none⟩ = some (.slice A8 z c8) ∧ w'.cell? ⟨pb, 0, none⟩ = some (.int .i64 f)) (first | exact ⟨t6d, t0d⟩ | go_keep)
                ((go_at_call 51; refine (HWk.out _).mono ?_; rintro e w3 ⟨rfl, rfl⟩))
              go_wp2_with fail
              go_ret3
              exact HZ.out
          · rw [hmk] at HM
            have hQs : Qt w pb f n (.slice A i c) D g c1 (D1.set k d) w11 := by rw [list_set_same HKd.out]; exact HQ.out
            have hmk2 := HDok.out.old (ck := ck) hmk
            have HZ := Lib.hid (put_done hQs HOks.out HDok.out HL1.out (HPT.out _ _ hmk2).1 (HPT.out _ _ hmk2).2 HFin.out)
            have HZ := Lib.hid (show PutPost w pb f n D r nd ck (.returned (.tuple #[.bool true, .bool false, .int .i64 0])) (w11.setCell ⟨pb, 2, none⟩ (.slice (some ⟨g, 0, none⟩) m1 c1)) from HZ.out)
            clear hmk hQs hmk2
            go_wp2_with fail
            refine HM.out.mono ?_
            rintro e w6 ⟨rfl, rfl⟩
            go_wp2_with fail
            go_ret3
            exact HZ.out
theorem qput_any (h : Pw w pb f n v D) (r : Rq) (nd ck : Int) : Calls Try.prog 33 #[.pointer (some ⟨pb, 0, none⟩), .agg #[.int .i64 r.cl, .int .i64 r.tm, .int .i64 r.kd, .int .i64 r.ky, .int .i64 r.vl, .int .i64 r.sg], .int .i64 nd, .int .i64 ck] w (PutPost w pb f n D r nd ck) := by
  by_cases hc : 0 ≤ r.cl ∧ r.cl < n ∧ 0 ≤ nd ∧ nd < 3 * f + 1
  · cases hh : had (trs D) r
    · by_cases hp : pend (trs D) r.cl = 4
      · refine (qput_full h r nd ck hc hh hp).mono fun e w' ⟨he, hb⟩ => ?_
        have hT : putT f n (trs D) r nd ck = ((false, false, 3), trs D) := by
          unfold putT
          rw [if_pos hc, if_pos ⟨hh, hp⟩]
        unfold PutPost
        rw [hT]
        exact ⟨he, D, rfl, PwPost.same h hb⟩
      · exact qput_new h r nd ck hc hh hp
    · exact qput_old h r nd ck hc hh
  · refine (qput_bad h r nd ck hc).mono fun e w' ⟨he, hb⟩ => ?_
    have hT : putT f n (trs D) r nd ck = ((false, false, 1), trs D) := by
      unfold putT
      rw [if_neg hc]
    unfold PutPost
    rw [hT]
    exact ⟨he, D, rfl, PwPost.same h hb⟩
end
end Go.Proofs.Ytbpefdnlldpjiaa

namespace Go.Proofs.Ytbpefdnlldpjiaa
open Go.RowKit Go.Sort
set_option linter.unusedSimpArgs false

/-- What an act leaves. -/
def DoPost (w : World) (tb : Nat) (v : Value) (pb : Nat) (f n : Int) (D : List Td) (w' : World) : Prop :=
  ∃ v' u', Tb w' tb v' f n (trs D) ∧ Pw w' pb f n u' D ∧ (∀ g, v'.ownBlock = some g → v.ownBlock = some g ∨ w.heap.size ≤ g) ∧ Turn (fun k => TZ tb v k ∨ k = pb) w w'
section
variable {w w1 w2 w3 : World} {tb pb : Nat} {v u : Value} {f n : Int} {D D' : List Td} {L' : List Tr}
theorem Tb.other (h : Tb w tb v f n L') {k : Nat} {cs : Array Value} (hb : Blk w k 46 cs) (ht : Turn (fun j => j = k) w w1) : Tb w1 tb v f n L' :=
  h.kept ht (fun j hj e => h.off hb (by decide) (by decide) (e ▸ hj))
/-- First the program's table, then the document's. -/
theorem do_both (ht : Tb w tb v f n (trs D)) (hp : Pw w pb f n u D) (h1 : TbPost w tb v f n L' w1) (hb : Below w1.heap.size w1 w2) (h2 : PwPost w2 pb f n D' w3) (he : trs D' = L') : DoPost w tb v pb f n D' w3 := by
  have hp1 := hp.post ht h1
  obtain ⟨v', a1, a2, a3⟩ := h1
  obtain ⟨u', b1, b2⟩ := h2
  have a1' := a1.below hb
  refine ⟨v', u', by rw [he]; exact a1'.other (hp1.below hb).blk b2, b1, a2, ?_⟩
  refine ⟨b2.os.trans (hb.os.trans a3.os), b2.tape.trans (hb.tape.trans a3.tape), b2.output.trans (hb.output.trans a3.output), Nat.le_trans a3.size (Nat.le_trans hb.size b2.size), fun k hk hz => ?_⟩
  have hk1 := Nat.lt_of_lt_of_le hk a3.size
  have hk2 := Nat.lt_of_lt_of_le hk1 hb.size
  exact (b2.block k hk2 (fun e => hz (Or.inr e))).trans ((hb.block k hk1).trans (a3.block k hk (fun e => hz (Or.inl e))))
theorem DoPost.below (h : DoPost w tb v pb f n D w1) (hb : Below w1.heap.size w1 w2) : DoPost w tb v pb f n D w2 := by
  obtain ⟨v', u', a1, a2, a3, a4⟩ := h
  exact ⟨v', u', a1.below hb, a2.below hb, a3, a4.trans (Turn.of_below hb)⟩
theorem DoPost.from_ (h : DoPost w1 tb v pb f n D w2) (hb : Below w.heap.size w w1) : DoPost w tb v pb f n D w2 := by
  obtain ⟨v', u', a1, a2, a3, a4⟩ := h
  exact ⟨v', u', a1, a2, fun g hg => (a3 g hg).imp id (Nat.le_trans hb.size), (Turn.of_below hb).trans a4⟩
end
def actC (a : Ac) : Array Value := #[.int .i64 a.dd, .int .i64 a.nd, .int .i64 a.ck, .int .i64 a.cl, .int .i64 a.nn, .int .i64 a.r.cl, .int .i64 a.r.tm, .int .i64 a.r.kd, .int .i64 a.r.ky, .int .i64 a.r.vl, .int .i64 a.r.sg]
structure BoxAt (w : World) (g : Nat) (a : Ac) : Prop where
  c0 : w.cell? ⟨g, 0, none⟩ = some (.int .i64 a.dd)
  c1 : w.cell? ⟨g, 1, none⟩ = some (.int .i64 a.nd)
  c2 : w.cell? ⟨g, 2, none⟩ = some (.int .i64 a.ck)
  c3 : w.cell? ⟨g, 3, none⟩ = some (.int .i64 a.cl)
  c4 : w.cell? ⟨g, 4, none⟩ = some (.int .i64 a.nn)
  c5 : w.cell? ⟨g, 5, none⟩ = some (.int .i64 a.r.cl)
  c6 : w.cell? ⟨g, 6, none⟩ = some (.int .i64 a.r.tm)
  c7 : w.cell? ⟨g, 7, none⟩ = some (.int .i64 a.r.kd)
  c8 : w.cell? ⟨g, 8, none⟩ = some (.int .i64 a.r.ky)
  c9 : w.cell? ⟨g, 9, none⟩ = some (.int .i64 a.r.vl)
  c10 : w.cell? ⟨g, 10, none⟩ = some (.int .i64 a.r.sg)
theorem box_at {w : World} {g : Nat} {a : Ac} (h : Blk w g 49 (actC a)) : BoxAt w g a := ⟨h.cell 0, h.cell 1, h.cell 2, h.cell 3, h.cell 4, h.cell 5, h.cell 6, h.cell 7, h.cell 8, h.cell 9, h.cell 10⟩
set_option maxHeartbeats 8000000 in
set_option maxRecDepth 100000 in
theorem do_any {w : World} {tb pb : Nat} {v u : Value} {f n : Int} {D : List Td} (ht : Tb w tb v f n (trs D)) (hp : Pw w pb f n u D) (a : Ac) (ha : fit a.dd) :
    Calls Try.prog 17 #[.pointer (some ⟨tb, 0, none⟩), .pointer (some ⟨pb, 0, none⟩), .agg #[.int .i64 a.dd, .int .i64 a.nd, .int .i64 a.ck, .int .i64 a.cl, .int .i64 a.nn, .int .i64 a.r.cl, .int .i64 a.r.tm, .int .i64 a.r.kd, .int .i64 a.r.ky, .int .i64 a.r.vl, .int .i64 a.r.sg]] w fun e w' => e = .returned (.bool true) ∧ ∃ D', DoPost w tb v pb f n D' w' := by
  obtain ⟨ha1, ha2⟩ := wf_i64 ha
  have HW6 := Lib.hid (fun w => within_any a.dd 6 (by omega) (by omega) ha1 ha2 w)
  clear ha ha1 ha2
  have hB0 : Below w.heap.size w (w.alloc (.cells (actC a) 49)) := (Below.refl _ _).alloc (Nat.le_refl _) _
  have HB0 := Lib.hid hB0
  have HT := Lib.hid (ht.below hB0)
  have HP := Lib.hid (hp.below hB0)
  have HX := Lib.hid (Blk.new w 49 (actC a))
  obtain ⟨w1, hw1⟩ : ∃ w1, w.alloc (.cells (actC a) 49) = w1 := ⟨_, rfl⟩
  have HW1 := Lib.hid (show w.alloc (.cells #[.int .i64 a.dd, .int .i64 a.nd, .int .i64 a.ck, .int .i64 a.cl, .int .i64 a.nn, .int .i64 a.r.cl, .int .i64 a.r.tm, .int .i64 a.r.kd, .int .i64 a.r.ky, .int .i64 a.r.vl, .int .i64 a.r.sg] 49) = w1 from hw1)
  rw [hw1] at HB0 HT HP HX
  clear hw1 ht hp hB0
  obtain ⟨gt, hgt⟩ : ∃ g, w.heap.size = g := ⟨_, rfl⟩
  rw [hgt] at HX
  obtain ⟨c0, c1, c2, c3, c4, c5, c6, c7, c8, c9, c10⟩ := box_at HX.out
  obtain ⟨m6, hm6⟩ : ∃ m, a.dd % 6 = m := ⟨_, rfl⟩
  rw [hm6] at HW6
  by_cases h5 : m6 < 5
  · have g5 : decide (m6 < 5) = true := decide_eq_true h5
    have HPut := Lib.hid ((pput_any HT.out a.r a.nd a.ck).mono (R' := fun e w' => ∃ b1 b2 e3, ((b1, b2, e3) : Bool × Bool × Int) = (putT f n (trs D) a.r a.nd a.ck).1 ∧ e = .returned (.tuple #[.bool b1, .bool b2, .int .i64 e3]) ∧ TbPost w1 tb v f n (putT f n (trs D) a.r a.nd a.ck).2 w') fun _ _ he => ⟨_, _, _, rfl, he.1, he.2⟩)
    clear h5 hm6
    go_enter Try.func17, Try.ntmps17
    go_wp2_with fail
    rw [HW1.out]
    go_wp2_with fail
    refine (HW6.out _).mono ?_
    rintro e w2 ⟨rfl, rfl⟩
    go_wp2_with fail
    refine HPut.out.mono ?_
    rintro e w2 ⟨b1, b2, e3, hbb, rfl, hpost⟩
    have HBb := Lib.hid hbb
    have HPost := Lib.hid hpost
    have HX2 := Lib.hid (hpost.far HT.out HX.out (by decide) (by decide))
    have HP2 := Lib.hid (HP.out.post HT.out hpost)
    obtain ⟨q0, q1, q2, q3, q4, q5, q6, q7, q8, q9, q10⟩ := box_at HX2.out
    have HPut2 := Lib.hid (qput_any HP2.out a.r a.nd a.ck)
    clear hbb hpost c0 c1 c2 c3 c4 c5 c6 c7 c8 c9 c10
    go_wp2_with fail
    refine HPut2.out.mono ?_
    rintro e w3 ⟨rfl, D', hD', hp3⟩
    rw [← HBb.out]
    have hdo := do_both HT.out HP.out HPost.out (Below.refl _ _) hp3 hD'
    have HDo := Lib.hid (hdo.from_ HB0.out)
    obtain ⟨v3, u3, ht3, hq3, -, -⟩ := hdo
    have HX3 := Lib.hid (show Blk w3 gt 49 (actC a) from by
      obtain ⟨u', _, hT⟩ := hp3
      exact hT.blk HX2.out (HX2.out.ne_ HP2.out.blk (by decide)))
    have HHp := Lib.hid (phas_any (ht3.drewN 1) a.r a.nd)
    have HHq := Lib.hid (fun (wz : World) (hb : Below (w3.drewN 1).heap.size (w3.drewN 1) wz) => qhas_any ((hq3.drewN 1).below hb) a.r a.nd)
    have HBx := Lib.hid (fun (wz : World) (hb : Below (w3.drewN 1).heap.size (w3.drewN 1) wz) => box_at ((HX3.out.drewN 1).below hb (HX3.out.lt)))
    obtain ⟨hz, hhz⟩ : ∃ b, hasT (trs D') a.r a.nd = b := ⟨_, rfl⟩
    rw [hhz] at HHp HHq
    obtain ⟨r0, r1, r2, r3, r4, r5, r6, r7, r8, r9, r10⟩ := box_at (HX3.out.drewN 1)
    clear hp3 ht3 hq3 hD' hhz q0 q1 q2 q3 q4 q5 q6 q7 q8 q9 q10
    go_wp2_with fail
    go_region_held3 (fun w' => w'.cell? ⟨gt, 1, none⟩ = some (.int .i64 a.nd) ∧ w'.cell? ⟨gt, 5, none⟩ = some (.int .i64 a.r.cl) ∧ w'.cell? ⟨gt, 6, none⟩ = some (.int .i64 a.r.tm) ∧ w'.cell? ⟨gt, 7, none⟩ = some (.int .i64 a.r.kd) ∧ w'.cell? ⟨gt, 8, none⟩ = some (.int .i64 a.r.ky) ∧ w'.cell? ⟨gt, 9, none⟩ = some (.int .i64 a.r.vl) ∧ w'.cell? ⟨gt, 10, none⟩ = some (.int .i64 a.r.sg)) (first | exact ⟨r1, r5, r6, r7, r8, r9, r10⟩ | exact hq2 | exact hq3 | go_keep)
      (first | (go_at_call 15; refine HHp.out.mono ?_; rintro e w5 ⟨rfl, hb5⟩; have hx5 := HBx.out _ hb5; have hq2 := And.intro hx5.c1 (And.intro hx5.c5 (And.intro hx5.c6 (And.intro hx5.c7 (And.intro hx5.c8 (And.intro hx5.c9 hx5.c10))))))
             | (go_at_call 34; refine (HHq.out _ hb5).mono ?_; rintro e w6 ⟨rfl, hb6⟩; have hx6 := HBx.out _ (hb5.trans (hb6.mono hb5.size)); have hq3 := And.intro hx6.c1 (And.intro hx6.c5 (And.intro hx6.c6 (And.intro hx6.c7 (And.intro hx6.c8 (And.intro hx6.c9 hx6.c10)))))))
    have HFin := Lib.hid (show DoPost w tb v pb f n D' w6 from HDo.out.below (Below.trans (⟨rfl, rfl, rfl, Nat.le_refl _, fun _ _ => rfl⟩ : Below w3.heap.size w3 (w3.drewN 1)) (hb5.trans (hb6.mono hb5.size))))
    clear hb5 hb6
    go_wp2_with fail
    go_ret
    exact ⟨by first | rfl | simp, D', HFin.out⟩
  · have g5 : decide (m6 < 5) = false := decide_eq_false h5
    have hrow : ((D.length : Int) - ((dropD D a.cl a.nn).length : Int)) = (((trs D).length : Int) - ((dropT (trs D) a.cl a.nn).length : Int)) := by rw [← trs_drop, trs_len, trs_len]
    obtain ⟨z, hz⟩ : ∃ z, ((trs D).length : Int) - ((dropT (trs D) a.cl a.nn).length : Int) = z := ⟨_, rfl⟩
    have HDr := Lib.hid (pdrop_any (HT.out.drewN 1) a.cl a.nn)
    have HDq := Lib.hid (fun (wz : World) (hp : TbPost (w1.drewN 1) tb v f n (dropT (trs D) a.cl a.nn) wz) => qdrop_any ((HP.out.drewN 1).post (HT.out.drewN 1) hp) a.cl a.nn)
    have HBx := Lib.hid (fun (wz : World) (hp : TbPost (w1.drewN 1) tb v f n (dropT (trs D) a.cl a.nn) wz) => hp.far (HT.out.drewN 1) (HX.out.drewN 1) (by decide) (by decide))
    have HPb := Lib.hid (fun (wz : World) (hp : TbPost (w1.drewN 1) tb v f n (dropT (trs D) a.cl a.nn) wz) => ((HP.out.drewN 1).post (HT.out.drewN 1) hp).blk)
    rw [hrow] at HDq
    rw [hz] at HDr HDq
    have k3 : (w1.drewN 1).cell? ⟨gt, 3, none⟩ = some (.int .i64 a.cl) := c3
    have k4 : (w1.drewN 1).cell? ⟨gt, 4, none⟩ = some (.int .i64 a.nn) := c4
    clear h5 hm6 hrow hz
    go_enter Try.func17, Try.ntmps17
    go_wp2_with fail
    rw [HW1.out]
    go_wp2_with fail
    refine (HW6.out _).mono ?_
    rintro e w2 ⟨rfl, rfl⟩
    go_wp2_with fail
    go_region_held3 (fun w' => w'.cell? ⟨gt, 3, none⟩ = some (.int .i64 a.cl) ∧ w'.cell? ⟨gt, 4, none⟩ = some (.int .i64 a.nn)) (first | exact ⟨k3, k4⟩ | exact hq2 | exact hq3 | go_keep)
      (first | (go_at_call 22; refine HDr.out.mono ?_; rintro e w5 ⟨rfl, hp5⟩; have hx5 := box_at (HBx.out _ hp5); have hq2 := And.intro hx5.c3 hx5.c4)
             | (go_at_call 35; refine (HDq.out _ hp5).mono ?_; rintro e w6 ⟨rfl, hp6⟩; have hx6 := box_at (show Blk w6 gt 49 (actC a) from by
                  obtain ⟨_, _, hT⟩ := hp6
                  exact hT.blk (HBx.out _ hp5) ((HBx.out _ hp5).ne_ (HPb.out _ hp5) (by decide))); have hq3 := And.intro hx6.c3 hx6.c4))
    have HFin := Lib.hid (show DoPost w tb v pb f n (dropD D a.cl a.nn) w6 from (do_both (HT.out.drewN 1) (HP.out.drewN 1) hp5 (Below.refl _ _) hp6 (trs_drop _ _ _)).from_ (HB0.out.trans ⟨rfl, rfl, rfl, Nat.le_refl _, fun _ _ => rfl⟩))
    clear hp5 hp6 hq2 hq3
    go_wp2_with fail
    go_ret
    exact ⟨by first | rfl | simp, _, HFin.out⟩
end Go.Proofs.Ytbpefdnlldpjiaa

namespace Go.Proofs.Ytbpefdnlldpjiaa
open Go.RowKit Go.Sort
set_option linter.unusedSimpArgs false

/-- So far: all requests, and those that are ready, each in a row of the call's own. -/
structure Ra (w : World) (L : List Tr) (f : Int) (k : Nat) (oa : List Rq) (ya : Value) (rr : List Rq) (yr : Value) (wr : World) : Prop where
  a : Al w (fun _ => true) L k oa ya wr
  r : Al w (isReady f) L k rr yr wr
  ap : ∀ g, ya.ownBlock = some g → yr.ownBlock ≠ some g
section
variable {w wr wz : World} {L : List Tr} {f : Int} {k : Nat} {oa rr : List Rq} {ya yr y2 : Value} {d : Tr}
theorem Ra.below (h : Ra w L f k oa ya rr yr wr) (hb : Below wr.heap.size wr wz) : Ra w L f k oa ya rr yr wz := ⟨h.a.below hb, h.r.below hb, h.ap⟩
/-- Behind the first append. -/
structure Rb (w : World) (L : List Tr) (f : Int) (k : Nat) (oa : List Rq) (ya : Value) (rr : List Rq) (yr : Value) (g : Nat) (x : Rq) (wr : World) : Prop where
  a : Al w (fun _ => true) L (k + 1) oa ya wr
  r : Al w (isReady f) L k rr yr wr
  ap : ∀ g, ya.ownBlock = some g → yr.ownBlock ≠ some g
  box : Blk wr g 25 #[.int .i64 x.cl, .int .i64 x.tm, .int .i64 x.kd, .int .i64 x.ky, .int .i64 x.vl, .int .i64 x.sg]
theorem Rb.below {g : Nat} {x : Rq} (h : Rb w L f k oa ya rr yr g x wr) (hb : Below wr.heap.size wr wz) : Rb w L f k oa ya rr yr g x wz := ⟨h.a.below hb, h.r.below hb, h.ap, h.box.below hb h.box.lt⟩
theorem Ra.first {x : Rq} (h : Ra w L f k oa ya rr yr wr) (hd : L[k]? = some d) (hx : d.rq = x)
    (ho : wz.ownsRow w.heap.size 25 6 y2 (oa.length + 1) (reqCells oa ++ reqCells [x])) (hg : ((wr.alloc (.cells #[.int .i64 x.cl, .int .i64 x.tm, .int .i64 x.kd, .int .i64 x.ky, .int .i64 x.vl, .int .i64 x.sg] 25)).alloc (.cells #[.int .i64 x.cl, .int .i64 x.tm, .int .i64 x.kd, .int .i64 x.ky, .int .i64 x.vl, .int .i64 x.sg] 25)).grownBy wz ya.ownBlock) (hy : y2.ownBlock = ya.ownBlock ∨ y2.ownBlock = some ((wr.alloc (.cells #[.int .i64 x.cl, .int .i64 x.tm, .int .i64 x.kd, .int .i64 x.ky, .int .i64 x.vl, .int .i64 x.sg] 25)).alloc (.cells #[.int .i64 x.cl, .int .i64 x.tm, .int .i64 x.kd, .int .i64 x.ky, .int .i64 x.vl, .int .i64 x.sg] 25)).heap.size) : Rb w L f k (oa ++ [x]) y2 rr yr wr.heap.size x wz := by
  subst hx
  obtain ⟨x, hx⟩ : ∃ x, d.rq = x := ⟨_, rfl⟩
  rw [hx] at hg ho hy ⊢
  have hb1 : Below wr.heap.size wr (wr.alloc (.cells #[.int .i64 x.cl, .int .i64 x.tm, .int .i64 x.kd, .int .i64 x.ky, .int .i64 x.vl, .int .i64 x.sg] 25)) := (Below.refl _ _).alloc (Nat.le_refl _) _
  have hb2 := hb1.alloc hb1.size (.cells #[.int .i64 x.cl, .int .i64 x.tm, .int .i64 x.kd, .int .i64 x.ky, .int .i64 x.vl, .int .i64 x.sg] 25)
  have hlow : Below w.heap.size w ((wr.alloc (.cells #[.int .i64 x.cl, .int .i64 x.tm, .int .i64 x.kd, .int .i64 x.ky, .int .i64 x.vl, .int .i64 x.sg] 25)).alloc (.cells #[.int .i64 x.cl, .int .i64 x.tm, .int .i64 x.kd, .int .i64 x.ky, .int .i64 x.vl, .int .i64 x.sg] 25)) := h.a.low.trans (hb2.mono h.a.low.size)
  have hlow2 := hlow.grown hg hlow.size (fun k hk => (h.a.own.lt k hk).1)
  refine ⟨?_, ⟨?_, hlow2, h.r.is⟩, fun g hg2 hr => ?_, ?_⟩
  · rw [← hx] at ho ⊢
    exact h.a.yes hd rfl ho hlow2
  · exact (below_own h.r.own hb2 (Nat.le_refl _)).kept hg (by
      cases e : yr.ownBlock with
      | none => exact Or.inl rfl
      | some g => exact Or.inr (fun e2 => h.ap g e2.symm e))
  · have hlt := (h.r.own.lt g hr).2
    rcases hy with e | e
    · exact h.ap g (e ▸ hg2) hr
    · rw [e] at hg2
      injection hg2 with hg2
      have := hb2.size
      omega
  · refine Blk.grown ((Blk.new wr 25 #[.int .i64 x.cl, .int .i64 x.tm, .int .i64 x.kd, .int .i64 x.ky, .int .i64 x.vl, .int .i64 x.sg]).alloc _) hg (fun e => ?_)
    have := (h.a.own.lt _ e.symm).2
    omega
theorem Rb.no {g : Nat} {x : Rq} (h : Rb w L f k oa ya rr yr g x wr) (hd : L[k]? = some d) (hr : isReady f d = false) (hb : Below wr.heap.size wr wz) : Ra w L f (k + 1) oa ya rr yr wz := ⟨h.a.below hb, h.r.no hd hr hb, h.ap⟩
theorem Rb.yes {g : Nat} {x : Rq} (h : Rb w L f k oa ya rr yr g x wr) (hd : L[k]? = some d) (hx : d.rq = x) (hr : isReady f d = true)
    (ho : wz.ownsRow w.heap.size 25 6 y2 (rr.length + 1) (reqCells rr ++ reqCells [x])) (hg : (wr.alloc (.cells #[.int .i64 x.cl, .int .i64 x.tm, .int .i64 x.kd, .int .i64 x.ky, .int .i64 x.vl, .int .i64 x.sg] 25)).grownBy wz yr.ownBlock) (hy : y2.ownBlock = yr.ownBlock ∨ y2.ownBlock = some (wr.alloc (.cells #[.int .i64 x.cl, .int .i64 x.tm, .int .i64 x.kd, .int .i64 x.ky, .int .i64 x.vl, .int .i64 x.sg] 25)).heap.size) : Ra w L f (k + 1) oa ya (rr ++ [x]) y2 wz ∧ (g < wr.heap.size → yr.ownBlock ≠ some g → Blk wz g 25 #[.int .i64 x.cl, .int .i64 x.tm, .int .i64 x.kd, .int .i64 x.ky, .int .i64 x.vl, .int .i64 x.sg]) := by
  subst hx
  obtain ⟨x, hx⟩ : ∃ x, d.rq = x := ⟨_, rfl⟩
  rw [hx] at h hg ho hy ⊢
  have hb1 : Below wr.heap.size wr (wr.alloc (.cells #[.int .i64 x.cl, .int .i64 x.tm, .int .i64 x.kd, .int .i64 x.ky, .int .i64 x.vl, .int .i64 x.sg] 25)) := (Below.refl _ _).alloc (Nat.le_refl _) _
  have hlow : Below w.heap.size w (wr.alloc (.cells #[.int .i64 x.cl, .int .i64 x.tm, .int .i64 x.kd, .int .i64 x.ky, .int .i64 x.vl, .int .i64 x.sg] 25)) := h.a.low.trans (hb1.mono h.a.low.size)
  have hlow2 := hlow.grown hg hlow.size (fun k hk => (h.r.own.lt k hk).1)
  refine ⟨⟨⟨?_, hlow2, h.a.is⟩, ?_, fun g hg2 hr2 => ?_⟩, fun _ hne => Blk.grown (h.box.alloc _) hg (fun e => hne e.symm)⟩
  · exact (below_own h.a.own hb1 (Nat.le_refl _)).kept hg (by
      cases e : ya.ownBlock with
      | none => exact Or.inl rfl
      | some g => exact Or.inr (fun e2 => h.ap g e e2.symm))
  · rw [← hx] at ho ⊢
    exact h.r.yes hd hr ho hlow2
  · have hlt := (h.a.own.lt g hg2).2
    rcases hy with e | e
    · exact h.ap g hg2 (e ▸ hr2)
    · rw [e] at hr2
      injection hr2 with hr2
      have := hb1.size
      omega
end
theorem since_at {f n : Int} {D : List Td} (hf : Fine f n (trs D)) {k : Nat} {d : Td} (hd : D[k]? = some d) : sinceT f (trs D) d.x.rq = if isReady f d.x = true then (d.x.sc, true) else (0, false) := by
  have hm := List.mem_of_getElem? (trs_get hd)
  have h1 : had (trs D) d.x.rq = true := had_iff.2 ⟨_, hm, rfl⟩
  unfold sinceT
  rw [h1, rowOf_mem hf.ris hm]
  simp
theorem req_box {w : World} {g : Nat} {x : Rq} (h : Blk w g 25 #[.int .i64 x.cl, .int .i64 x.tm, .int .i64 x.kd, .int .i64 x.ky, .int .i64 x.vl, .int .i64 x.sg]) : w.cell? ⟨g, 0, none⟩ = some (.int .i64 x.cl) ∧ w.cell? ⟨g, 1, none⟩ = some (.int .i64 x.tm) ∧ w.cell? ⟨g, 2, none⟩ = some (.int .i64 x.kd) ∧ w.cell? ⟨g, 3, none⟩ = some (.int .i64 x.ky) ∧ w.cell? ⟨g, 4, none⟩ = some (.int .i64 x.vl) ∧ w.cell? ⟨g, 5, none⟩ = some (.int .i64 x.sg) := ⟨h.cell 0, h.cell 1, h.cell 2, h.cell 3, h.cell 4, h.cell 5⟩
set_option maxHeartbeats 16000000 in
set_option maxRecDepth 100000 in
theorem right_any {w : World} {tb pb : Nat} {v u : Value} {f n : Int} {D : List Td} (ht : Tb w tb v f n (trs D)) (hp : Pw w pb f n u D) :
    Calls Try.prog 18 #[.pointer (some ⟨tb, 0, none⟩), .pointer (some ⟨pb, 0, none⟩)] w fun e w' => e = .returned (.bool true) ∧ Below w.heap.size w w' := by
  obtain ⟨i0, hi0, hx0, hx1, hx2⟩ := info_parts info_req
  have HT := Lib.hid ht
  have hm := hp.most
  obtain ⟨A, c, rfl, _, _, hh⟩ := hp.has
  have HH := Lib.hid hh
  obtain ⟨n0, hn0⟩ : ∃ n0, D.length = n0 := ⟨_, rfl⟩
  have HP := Lib.hid hp
  rw [hn0] at hm HP
  have HN := Lib.hid hn0
  have q2 : w.cell? ⟨pb, 2, none⟩ = some (.slice A n0 c) := HP.out.blk.cell 2
  clear ht hp hh hn0
  go_enter Try.func18, Try.ntmps18
  go_wp2_with fail
  clear q2
  go_loopw [5, 6, 17] (fun ya yr xi wr => ∃ (k : Nat) (oa rr : List Rq), xi = .int .i64 k ∧ k ≤ n0 ∧ Hid (Ra w (trs D) f k oa ya rr yr wr)) (fun _ _ xi _ => n0 - (intOf xi).toNat)
  case atStart => exact ⟨0, [], [], rfl, Nat.zero_le _, ⟨World.ownsRow_nil _ _ _ _, Below.refl _ _, rfl⟩, ⟨World.ownsRow_nil _ _ _ _, Below.refl _ _, rfl⟩, fun _ h => by cases h⟩
  case round =>
    obtain ⟨k, oa, rr, rfl, hk, HR⟩ := hrel
    have HPr := Lib.hid (HP.out.below HR.out.a.low)
    have q2 : wr.cell? ⟨pb, 2, none⟩ = some (.slice A n0 c) := HPr.out.blk.cell 2
    by_cases hlt : k < n0
    · have hkL : k < D.length := by rw [HN.out]; exact hlt
      obtain ⟨ad, rfl, hab, hRo⟩ := td_at (HH.out.below HR.out.a.low (Nat.le_refl _)) hkL
      obtain ⟨d, hd⟩ : ∃ d, D[k] = d := ⟨_, rfl⟩
      rw [hd] at hRo
      have HX := Lib.hid (show D[k]? = some d by rw [← hd]; exact List.getElem?_eq_getElem hkL)
      have HDok := Lib.hid (HP.out.ok d (List.mem_of_getElem? HX.out))
      have HSi := Lib.hid (since_at HP.out.fine HX.out)
      have HC7 := Lib.hid (fun (wz : World) (hb : Below w.heap.size w wz) => show wz.cell? ⟨(ad.add (k * 8)).block, (ad.add (k * 8)).off + 7, none⟩ = some (.int .i64 d.sc) from by
        obtain ⟨ad', e', _, hR'⟩ := td_at (HH.out.below hb (Nat.le_refl _)) hkL
        cases e'
        rw [hd] at hR'
        exact hR'.c7)
      obtain ⟨Ar, cr, rfl, -, -⟩ := own_slice HR.out.r.own
      have HNeR := Lib.hid (show (Value.slice Ar rr.length cr).ownBlock ≠ some wr.heap.size from fun e => by have := (HR.out.r.own.lt _ e).2; omega)
      obtain ⟨c0, c1, c2, c3, c4, c5, -, -⟩ := hRo
      obtain ⟨x, hx⟩ : ∃ x, d.x.rq = x := ⟨_, rfl⟩
      rw [hx] at c0 c1 c2 c3 c4 c5 HSi
      have HXq := Lib.hid hx
      have hki : (k : Int) < (n0 : Int) := by omega
      obtain ⟨Ay, cy, rfl, -, -⟩ := own_slice HR.out.a.own
      have HLa := Lib.hid HR.out.a.len
      have hb1 : Below wr.heap.size wr (wr.alloc (.cells #[.int .i64 x.cl, .int .i64 x.tm, .int .i64 x.kd, .int .i64 x.ky, .int .i64 x.vl, .int .i64 x.sg] 25)) := (Below.refl _ _).alloc (Nat.le_refl _) _
      have HB2 := Lib.hid (hb1.alloc hb1.size (.cells #[.int .i64 x.cl, .int .i64 x.tm, .int .i64 x.kd, .int .i64 x.ky, .int .i64 x.vl, .int .i64 x.sg] 25))
      have HNw := Lib.hid (show Has ((wr.alloc (.cells #[.int .i64 x.cl, .int .i64 x.tm, .int .i64 x.kd, .int .i64 x.ky, .int .i64 x.vl, .int .i64 x.sg] 25)).alloc (.cells #[.int .i64 x.cl, .int .i64 x.tm, .int .i64 x.kd, .int .i64 x.ky, .int .i64 x.vl, .int .i64 x.sg] 25)) ((wr.alloc (.cells #[.int .i64 x.cl, .int .i64 x.tm, .int .i64 x.kd, .int .i64 x.ky, .int .i64 x.vl, .int .i64 x.sg] 25)).heap.size + 1) (some ⟨wr.heap.size + 1, 0, none⟩) (reqCells [x]) from by have h9 := Has.fresh (wr.alloc (.cells #[.int .i64 x.cl, .int .i64 x.tm, .int .i64 x.kd, .int .i64 x.ky, .int .i64 x.vl, .int .i64 x.sg] 25)) #[.int .i64 x.cl, .int .i64 x.tm, .int .i64 x.kd, .int .i64 x.ky, .int .i64 x.vl, .int .i64 x.sg] 25; rw [World.size_alloc] at h9; rw [World.size_alloc]; exact h9)
      have HOw := Lib.hid (below_own HR.out.a.own HB2.out (Nat.le_refl _))
      have HOne := Lib.hid (reqCells_one [x])
      have HM1 := Lib.hid (show oa.length + 1 ≤ maxLen by have := HLa.out; unfold maxLen; omega)
      have HM2 := Lib.hid (show (oa.length + 1) * 48 ≤ 140737488355328 by have := HLa.out; omega)
      have HM3 := Lib.hid (show w.heap.size ≤ ((wr.alloc (.cells #[.int .i64 x.cl, .int .i64 x.tm, .int .i64 x.kd, .int .i64 x.ky, .int .i64 x.vl, .int .i64 x.sg] 25)).alloc (.cells #[.int .i64 x.cl, .int .i64 x.tm, .int .i64 x.kd, .int .i64 x.ky, .int .i64 x.vl, .int .i64 x.sg] 25)).heap.size from Nat.le_trans HR.out.a.low.size HB2.out.size)
      clear hx hd hkL hab hb1
      go_wp2_with (at_builtin; refine wpList_apps rfl _ _ 37 rfl w.heap.size 25 i0 _ 6 48 Try.underlying37 hi0 hx0 hx1 hx2 rfl (by decide) _ _ _ rfl HOw.out _ (some ⟨wr.heap.size + 1, 0, none⟩) 1 1 (reqCells [x]) rfl rfl HNw.out (fun h => nomatch h) HOne.out HM1.out HM2.out HM3.out ?_)
      intro v2 w2 ho hg hy
      have HR2 := Lib.hid (HR.out.first (trs_get HX.out) HXq.out ho hg (by rw [World.size_alloc, World.size_alloc]; exact hy))
      obtain ⟨A2, c2', rfl, -, -⟩ := own_slice ho
      clear ho hg hy
      obtain ⟨g8, hg8⟩ : ∃ g, wr.heap.size = g := ⟨_, rfl⟩
      rw [hg8] at HR2 HNeR
      try rw [hg8]
      obtain ⟨b0, b1, b2, b3, b4, b5⟩ := req_box HR2.out.box
      have HSn := Lib.hid (psince_any (HT.out.below HR2.out.a.low) x)
      rw [HSi.out] at HSn
      have HLr := Lib.hid HR2.out.r.len
      clear c0 c1 c2 c3 c4 c5 q2 HB2 HNw HOw HOne HM1 HM2 HM3 HLa HR HPr
      cases hrd : isReady f d.x
      · rw [hrd, if_neg (by simp)] at HSn
        go_wp2_with fail
        refine HSn.out.mono ?_
        rintro e w3 ⟨rfl, hb3⟩
        have HR3 := Lib.hid (HR2.out.below hb3)
        have HRd := Lib.hid (qready_any (HP.out.below HR3.out.a.low) HX.out)
        rw [hrd] at HRd
        go_wp2_with fail
        refine HRd.out.mono ?_
        rintro e w4 ⟨rfl, hb4⟩
        have HR4 := Lib.hid (HR3.out.below hb4)
        have HR5 := Lib.hid (HR4.out.no (trs_get HX.out) hrd (Below.refl _ _))
        clear hb3 hb4 b0 b1 b2 b3 b4 b5
        have hbx5 := HR4.out.box
        have HBx5 := Lib.hid hbx5
        go_wp2_with fail
        go_loopw [11] (fun y wr => ∃ j : Nat, y = .int .i64 j ∧ j ≤ 13 ∧ Hid (Below w4.heap.size w4 wr)) (fun y _ => 13 - (intOf y).toNat)
        case atStart => exact ⟨0, rfl, Nat.zero_le _, Below.refl _ _⟩
        case round =>
          obtain ⟨j, rfl, hj, HBj⟩ := hrel
          by_cases hj13 : j < 13
          · have HTj := Lib.hid ((HT.out.below (HR5.out.a.low.trans (HBj.out.mono HR5.out.a.low.size))).drewN 1)
            have HPj := Lib.hid ((HP.out.below (HR5.out.a.low.trans (HBj.out.mono HR5.out.a.low.size))).drewN 1)
            have HXj := Lib.hid ((HBx5.out.below HBj.out HBx5.out.lt).drewN 1)
            have HHp := Lib.hid (phas_any HTj.out x j)
            have HHq := Lib.hid (fun (wz : World) (hb : Below (wr.drewN 1).heap.size (wr.drewN 1) wz) => qhas_any (HPj.out.below hb) x j)
            have HBq := Lib.hid (fun (wz : World) (hb : Below (wr.drewN 1).heap.size (wr.drewN 1) wz) => req_box (HXj.out.below hb HXj.out.lt))
            have r0 := req_box HXj.out
            obtain ⟨hz, hhz⟩ : ∃ b, hasT (trs D) x j = b := ⟨_, rfl⟩
            rw [hhz] at HHp HHq
            have hj2 : (j : Int) < 13 := by omega
            clear hhz
            go_wp2_with fail
            go_region_held3 (fun w' => w'.cell? ⟨g8, 0, none⟩ = some (.int .i64 x.cl) ∧ w'.cell? ⟨g8, 1, none⟩ = some (.int .i64 x.tm) ∧ w'.cell? ⟨g8, 2, none⟩ = some (.int .i64 x.kd) ∧ w'.cell? ⟨g8, 3, none⟩ = some (.int .i64 x.ky) ∧ w'.cell? ⟨g8, 4, none⟩ = some (.int .i64 x.vl) ∧ w'.cell? ⟨g8, 5, none⟩ = some (.int .i64 x.sg)) (first | exact r0 | exact hq2 | exact hq3 | go_keep)
              (first | (go_at_call 15; refine HHp.out.mono ?_; rintro e w15 ⟨rfl, hb15⟩; have hq2 := HBq.out _ hb15)
                     | (go_at_call 34; refine (HHq.out _ hb15).mono ?_; rintro e w16 ⟨rfl, hb16⟩; have hq3 := HBq.out _ (hb15.trans (hb16.mono hb15.size))))
            have HBj2 := Lib.hid (show Below w4.heap.size w4 w16 from HBj.out.trans (Below.mono (Below.trans (⟨rfl, rfl, rfl, Nat.le_refl _, fun _ _ => rfl⟩ : Below wr.heap.size wr (wr.drewN 1)) (hb15.trans (hb16.mono hb15.size))) HBj.out.size))
            clear hb15 hb16 hq2 hq3 r0
            go_wp2_with fail
            go_roundw
            case rel => exact ⟨j + 1, by go_num, by omega, HBj2.out⟩
            case measure => simp [intOf]; omega
          · obtain rfl : j = 13 := by omega
            go_wp2_with fail
            go_roundw
            case rel => exact ⟨k + 1, _, _, by go_num, by omega, HR5.out.below HBj.out⟩
            case measure => simp [intOf]; omega
      · rw [hrd, if_pos rfl] at HSn
        have HRy := Lib.hid hrd
        go_wp2_with fail
        refine HSn.out.mono ?_
        rintro e w3 ⟨rfl, hb3⟩
        have HR3 := Lib.hid (HR2.out.below hb3)
        have HRd := Lib.hid (qready_any (HP.out.below HR3.out.a.low) HX.out)
        rw [hrd] at HRd
        go_wp2_with fail
        refine HRd.out.mono ?_
        rintro e w4 ⟨rfl, hb4⟩
        have HR4 := Lib.hid (HR3.out.below hb4)
        have c7 := HC7.out w4 HR4.out.a.low
        rw [HDok.out.sc hrd] at c7
        have q24 : w4.cell? ⟨pb, 2, none⟩ = some (.slice (some ad) n0 c) := (HP.out.below HR4.out.a.low).blk.cell 2
        obtain ⟨b0, b1, b2, b3, b4, b5⟩ := req_box HR4.out.box
        have HBb := Lib.hid (show Below w4.heap.size w4 (w4.alloc (.cells #[.int .i64 x.cl, .int .i64 x.tm, .int .i64 x.kd, .int .i64 x.ky, .int .i64 x.vl, .int .i64 x.sg] 25)) from (Below.refl _ _).alloc (Nat.le_refl _) _)
        have HNw := Lib.hid (show Has (w4.alloc (.cells #[.int .i64 x.cl, .int .i64 x.tm, .int .i64 x.kd, .int .i64 x.ky, .int .i64 x.vl, .int .i64 x.sg] 25)) (w4.heap.size + 1) (some ⟨w4.heap.size, 0, none⟩) (reqCells [x]) from Has.fresh w4 #[.int .i64 x.cl, .int .i64 x.tm, .int .i64 x.kd, .int .i64 x.ky, .int .i64 x.vl, .int .i64 x.sg] 25)
        have HOw := Lib.hid (below_own HR4.out.r.own HBb.out (Nat.le_refl _))
        have HOne := Lib.hid (reqCells_one [x])
        have HM1 := Lib.hid (show rr.length + 1 ≤ maxLen by have := HLr.out; unfold maxLen; omega)
        have HM2 := Lib.hid (show (rr.length + 1) * 48 ≤ 140737488355328 by have := HLr.out; omega)
        have HM3 := Lib.hid (show w.heap.size ≤ (w4.alloc (.cells #[.int .i64 x.cl, .int .i64 x.tm, .int .i64 x.kd, .int .i64 x.ky, .int .i64 x.vl, .int .i64 x.sg] 25)).heap.size from Nat.le_trans HR4.out.a.low.size HBb.out.size)
        clear hb3 hb4 hrd
        go_wp2_with (at_builtin; refine wpList_apps rfl _ _ 37 rfl w.heap.size 25 i0 _ 6 48 Try.underlying37 hi0 hx0 hx1 hx2 rfl (by decide) _ _ _ rfl HOw.out _ (some ⟨w4.heap.size, 0, none⟩) 1 1 (reqCells [x]) rfl rfl HNw.out (fun h => nomatch h) HOne.out HM1.out HM2.out HM3.out ?_)
        intro v5 w5 ho5 hg5 hy5
        obtain ⟨hR5, hbx⟩ := HR4.out.yes (trs_get HX.out) HXq.out HRy.out ho5 hg5 (by rw [World.size_alloc]; exact hy5)
        have HR5 := Lib.hid hR5
        have HBy := Lib.hid (hbx HR4.out.box.lt HNeR.out)
        clear ho5 hg5 hy5 hR5 hbx c7 q24 b0 b1 b2 b3 b4 b5
        have hbx5 := HBy.out
        have HBx5 := Lib.hid hbx5
        go_wp2_with fail
        go_loopw [11] (fun y wr => ∃ j : Nat, y = .int .i64 j ∧ j ≤ 13 ∧ Hid (Below w5.heap.size w5 wr)) (fun y _ => 13 - (intOf y).toNat)
        case atStart => exact ⟨0, rfl, Nat.zero_le _, Below.refl _ _⟩
        case round =>
          obtain ⟨j, rfl, hj, HBj⟩ := hrel
          by_cases hj13 : j < 13
          · have HTj := Lib.hid ((HT.out.below (HR5.out.a.low.trans (HBj.out.mono HR5.out.a.low.size))).drewN 1)
            have HPj := Lib.hid ((HP.out.below (HR5.out.a.low.trans (HBj.out.mono HR5.out.a.low.size))).drewN 1)
            have HXj := Lib.hid ((HBx5.out.below HBj.out HBx5.out.lt).drewN 1)
            have HHp := Lib.hid (phas_any HTj.out x j)
            have HHq := Lib.hid (fun (wz : World) (hb : Below (wr.drewN 1).heap.size (wr.drewN 1) wz) => qhas_any (HPj.out.below hb) x j)
            have HBq := Lib.hid (fun (wz : World) (hb : Below (wr.drewN 1).heap.size (wr.drewN 1) wz) => req_box (HXj.out.below hb HXj.out.lt))
            have r0 := req_box HXj.out
            obtain ⟨hz, hhz⟩ : ∃ b, hasT (trs D) x j = b := ⟨_, rfl⟩
            rw [hhz] at HHp HHq
            have hj2 : (j : Int) < 13 := by omega
            clear hhz
            go_wp2_with fail
            go_region_held3 (fun w' => w'.cell? ⟨g8, 0, none⟩ = some (.int .i64 x.cl) ∧ w'.cell? ⟨g8, 1, none⟩ = some (.int .i64 x.tm) ∧ w'.cell? ⟨g8, 2, none⟩ = some (.int .i64 x.kd) ∧ w'.cell? ⟨g8, 3, none⟩ = some (.int .i64 x.ky) ∧ w'.cell? ⟨g8, 4, none⟩ = some (.int .i64 x.vl) ∧ w'.cell? ⟨g8, 5, none⟩ = some (.int .i64 x.sg)) (first | exact r0 | exact hq2 | exact hq3 | go_keep)
              (first | (go_at_call 15; refine HHp.out.mono ?_; rintro e w15 ⟨rfl, hb15⟩; have hq2 := HBq.out _ hb15)
                     | (go_at_call 34; refine (HHq.out _ hb15).mono ?_; rintro e w16 ⟨rfl, hb16⟩; have hq3 := HBq.out _ (hb15.trans (hb16.mono hb15.size))))
            have HBj2 := Lib.hid (show Below w5.heap.size w5 w16 from HBj.out.trans (Below.mono (Below.trans (⟨rfl, rfl, rfl, Nat.le_refl _, fun _ _ => rfl⟩ : Below wr.heap.size wr (wr.drewN 1)) (hb15.trans (hb16.mono hb15.size))) HBj.out.size))
            clear hb15 hb16 hq2 hq3 r0
            go_wp2_with fail
            go_roundw
            case rel => exact ⟨j + 1, by go_num, by omega, HBj2.out⟩
            case measure => simp [intOf]; omega
          · obtain rfl : j = 13 := by omega
            go_wp2_with fail
            go_roundw
            case rel => exact ⟨k + 1, _, _, by go_num, by omega, HR5.out.below HBj.out⟩
            case measure => simp [intOf]; omega
    · obtain rfl : k = n0 := by omega
      have hka : (trs D).length ≤ k := by rw [trs_len, HN.out]; exact Nat.le_refl _
      have hea : oa = rqs (trs D) := by rw [HR.out.a.done hka, List.filter_eq_self.2 (fun _ _ => rfl)]
      have her : rr = readyT f (trs D) := HR.out.r.done hka
      have hlen : (rqs (trs D)).length = k := by rw [rqs_len, trs_len, HN.out]
      have hrl : (readyT f (trs D)).length ≤ k := by rw [← her]; exact HR.out.r.len
      subst hea
      subst her
      obtain ⟨Ay, cy, rfl, -, -⟩ := own_slice HR.out.a.own
      obtain ⟨Ar, cr, rfl, -, -⟩ := own_slice HR.out.r.own
      have HAl := Lib.hid (pall_any (HT.out.below HR.out.a.low))
      obtain ⟨lr, hlr⟩ : ∃ lr, (readyT f (trs D)).length = lr := ⟨_, rfl⟩
      rw [hlr] at hrl
      have HLr := Lib.hid hlr
      have HLa := Lib.hid hlen
      have hk16 : k ≤ 16 := hm
      have hlr16 : lr ≤ 16 := Nat.le_trans hrl hm
      rw [hlen, hlr] at HR
      try rw [hlen]
      try rw [hlr]
      clear hka hlen hlr hrl q2 HPr HH HP
      obtain ⟨L, hL⟩ : ∃ L, trs D = L := ⟨_, rfl⟩
      have HTl := Lib.hid (show (trs D).length = k by rw [trs_len]; exact HN.out)
      rw [hL] at HR HT HAl HLr HLa HTl
      clear hL HN
      obtain ⟨R, hR⟩ : ∃ R, rqs L = R := ⟨_, rfl⟩
      obtain ⟨Y, hY⟩ : ∃ Y, readyT f L = Y := ⟨_, rfl⟩
      have HRY := Lib.hid (And.intro hR hY)
      rw [hR] at HR HAl HLa
      rw [hY] at HR HLr
      clear hR hY
      go_wp2_with fail
      refine HAl.out.mono ?_
      rintro e w7 ⟨va, rfl, hoa, hba⟩
      rw [HLa.out] at hoa
      have HR7 := Lib.hid (HR.out.below hba)
      obtain ⟨Aa, ca, rfl, -, -⟩ := own_slice hoa
      have hra := HR7.out.a.own
      rw [HLa.out] at hra
      have HS := Lib.hid (same_reqs_is (A := Aa) (A' := Ay) (c := ca) (c' := cy) HLa.out HLa.out (by omega) (show sameL R R = true by simp [sameL]) w7 (has_rows hoa) (has_rows hra))
      clear hoa hba hra
      go_wp2_with fail
      refine HS.out.mono ?_
      rintro e w8 ⟨rfl, nq, rfl⟩
      have HR8 := Lib.hid (HR7.out.below (wz := w7.drewN nq) ⟨rfl, rfl, rfl, Nat.le_refl _, fun _ _ => rfl⟩)
      have HRe := Lib.hid (preadies_any (HT.out.below HR8.out.a.low))
      rw [HRY.out.2, HLr.out] at HRe
      clear HS
      go_wp2_with fail
      refine HRe.out.mono ?_
      rintro e w9 ⟨vb, rfl, hob, hbb⟩
      have HR9 := Lib.hid (HR8.out.below hbb)
      obtain ⟨Ab, cb, rfl, -, -⟩ := own_slice hob
      have hrr := HR9.out.r.own
      rw [HLr.out] at hrr
      have HS := Lib.hid (same_reqs_is (A := Ab) (A' := Ar) (c := cb) (c' := cr) HLr.out HLr.out (by omega) (show sameL Y Y = true by simp [sameL]) w9 (has_rows hob) (has_rows hrr))
      clear hob hbb hrr
      go_wp2_with fail
      refine HS.out.mono ?_
      rintro e w10 ⟨rfl, nq2, rfl⟩
      have HR10 := Lib.hid (HR9.out.below (wz := w9.drewN nq2) ⟨rfl, rfl, rfl, Nat.le_refl _, fun _ _ => rfl⟩)
      have HPl := Lib.hid (plen_any (HT.out.below HR10.out.a.low))
      rw [HTl.out] at HPl
      go_wp2_with fail
      refine HPl.out.mono ?_
      rintro e w11 ⟨rfl, rfl⟩
      go_wp2_with fail
      go_ret
      exact ⟨by first | rfl | simp, HR10.out.a.low⟩
end Go.Proofs.Ytbpefdnlldpjiaa

namespace Go.Proofs.Ytbpefdnlldpjiaa
open Go.RowKit Go.Sort
set_option linter.unusedSimpArgs false

/-- The program's table and the document's, both made since w. -/
structure Bo (w : World) (tb : Nat) (v : Value) (pb : Nat) (u : Value) (f n : Int) (D : List Td) (wr : World) : Prop where
  rt : Rt w tb v f n (trs D) wr
  pw : Pw wr pb f n u D
  pl : w.heap.size ≤ pb
/-- Two such pairs, apart. -/
structure Bo2 (w : World) (tb : Nat) (v : Value) (pb : Nat) (u : Value) (D : List Td) (cb : Nat) (vc : Value) (qb : Nat) (uq : Value) (E : List Td) (f n : Int) (wr : World) : Prop where
  b1 : Bo w tb v pb u f n D wr
  b2 : Bo w cb vc qb uq f n E wr
  ap : ∀ k, TZ tb v k → ¬ TZ cb vc k
  ne : pb ≠ qb
section
variable {w wr wz : World} {tb pb cb qb : Nat} {v u vc uq : Value} {f n : Int} {D E D' : List Td}
theorem Bo.below (h : Bo w tb v pb u f n D wr) (hb : Below wr.heap.size wr wz) : Bo w tb v pb u f n D wz := ⟨h.rt.below hb, h.pw.below hb, h.pl⟩
theorem Bo.step (h : Bo w tb v pb u f n D wr) (hp : DoPost wr tb v pb f n D' wz) : ∃ v' u', Bo w tb v' pb u' f n D' wz := by
  obtain ⟨v', u', a1, a2, a3, a4⟩ := hp
  refine ⟨v', u', ⟨a1, h.rt.lt, fun g hg => ?_, h.rt.low.trans (a4.below h.rt.low.size (fun k hk hz => ?_))⟩, a2, h.pl⟩
  · rcases a3 g hg with h2 | h2
    · exact h.rt.lg g h2
    · exact Nat.le_trans h.rt.low.size h2
  · rcases hz with (rfl | hz) | rfl
    · have := h.rt.lt; omega
    · have := h.rt.lg k hz; omega
    · have := h.pl; omega
theorem Bo2.below (h : Bo2 w tb v pb u D cb vc qb uq E f n wr) (hb : Below wr.heap.size wr wz) : Bo2 w tb v pb u D cb vc qb uq E f n wz := ⟨h.b1.below hb, h.b2.below hb, h.ap, h.ne⟩
theorem Bo2.step (h : Bo2 w tb v pb u D cb vc qb uq E f n wr) (hp : DoPost wr cb vc qb f n D' wz) : ∃ vc' uq', Bo2 w tb v pb u D cb vc' qb uq' D' f n wz := by
  obtain ⟨vc', uq', hb2⟩ := h.b2.step hp
  obtain ⟨v1, u1, a1, a2, a3, a4⟩ := hp
  have hv : ∀ j, TZ cb vc' j → TZ cb vc j ∨ wr.heap.size ≤ j ∨ True := fun _ _ => Or.inr (Or.inr trivial)
  have key : ∀ (v1 : Value) (u1 : Value), Bo w cb v1 qb u1 f n D' wz → (∀ g, v1.ownBlock = some g → vc.ownBlock = some g ∨ wr.heap.size ≤ g) → Bo2 w tb v pb u D cb v1 qb u1 D' f n wz := fun v1 u1 hb hg => by
    refine ⟨⟨⟨h.b1.rt.tab.kept a4 (fun k hk hz => ?_), h.b1.rt.lt, h.b1.rt.lg, hb.rt.low⟩, h.b1.pw.kept a4 (fun hz => ?_) (fun k cs hk hz => ?_) (fun k cs hk hz => ?_), h.b1.pl⟩, hb, fun k hk h2 => ?_, h.ne⟩
    · rcases hz with hz | rfl
      · exact h.ap k hk hz
      · exact h.b1.rt.tab.off h.b2.pw.blk (by decide) (by decide) hk
    · rcases hz with hz | hz
      · exact h.b2.rt.tab.off h.b1.pw.blk (by decide) (by decide) hz
      · exact h.ne hz
    · rcases hz with hz | rfl
      · exact h.b2.rt.tab.off hk (by decide) (by decide) hz
      · exact hk.ne_ h.b2.pw.blk (by decide) rfl
    · rcases hz with hz | rfl
      · exact h.b2.rt.tab.off hk (by decide) (by decide) hz
      · exact hk.ne_ h.b2.pw.blk (by decide) rfl
    · rcases h2 with e | e
      · exact h.ap k hk (Or.inl e)
      · rcases hg k e with h3 | h3
        · exact h.ap k hk (Or.inr h3)
        · have := h.b1.rt.tab.lt hk; omega
  have hlow : Below w.heap.size w wz := hb2.rt.low
  exact ⟨v1, u1, key v1 u1 ⟨⟨a1, h.b2.rt.lt, fun g hg => (a3 g hg).elim (h.b2.rt.lg g) (Nat.le_trans h.b2.rt.low.size), hlow⟩, a2, h.b2.pl⟩ a3⟩
end
set_option maxHeartbeats 16000000 in
set_option maxRecDepth 100000 in
theorem plays_out (f n : Int) (A : Option Addr) (c : Nat) (l : List Ac) (A2 : Option Addr) (c2 : Nat) (m : List Ac) (w : World) (h : ¬ (1 ≤ f ∧ f ≤ 4 ∧ 1 ≤ n ∧ n ≤ 4)) : Calls Try.prog 4 #[.int .i64 f, .int .i64 n, .slice A l.length c, .slice A2 m.length c2] w fun e w' => e = .returned (.bool true) ∧ Below w.heap.size w w' := by
  have HNew := Lib.hid (pnew_out h w)
  have HWk := Lib.hid (fun w => wakes13_any w)
  have hor : f < 1 ∨ (¬ f < 1 ∧ 4 < f) ∨ (¬ f < 1 ∧ ¬ 4 < f ∧ n < 1) ∨ (¬ f < 1 ∧ ¬ 4 < f ∧ ¬ n < 1 ∧ 4 < n) := by omega
  clear h
  rcases hor with a | ⟨a, b⟩ | ⟨a, b, d⟩ | ⟨a, b, d, e⟩
  · have g1 : decide (f < 1) = true := decide_eq_true a
    clear a
    go_enter Try.func4, Try.ntmps4
    go_wp2_with fail
    refine HNew.out.mono ?_
    rintro e w2 ⟨rfl, rfl⟩
    go_wp2_with fail
    refine (HWk.out _).mono ?_
    rintro e w3 ⟨rfl, hb⟩
    go_wp2_with fail
    go_ret
    exact ⟨rfl, hb⟩
  · have g1 : decide (f < 1) = false := decide_eq_false a
    have g2 : decide (4 < f) = true := decide_eq_true b
    clear a b
    go_enter Try.func4, Try.ntmps4
    go_wp2_with fail
    refine HNew.out.mono ?_
    rintro e w2 ⟨rfl, rfl⟩
    go_wp2_with fail
    refine (HWk.out _).mono ?_
    rintro e w3 ⟨rfl, hb⟩
    go_wp2_with fail
    go_ret
    exact ⟨rfl, hb⟩
  · have g1 : decide (f < 1) = false := decide_eq_false a
    have g2 : decide (4 < f) = false := decide_eq_false b
    have g3 : decide (n < 1) = true := decide_eq_true d
    clear a b d
    go_enter Try.func4, Try.ntmps4
    go_wp2_with fail
    refine HNew.out.mono ?_
    rintro e w2 ⟨rfl, rfl⟩
    go_wp2_with fail
    refine (HWk.out _).mono ?_
    rintro e w3 ⟨rfl, hb⟩
    go_wp2_with fail
    go_ret
    exact ⟨rfl, hb⟩
  · have g1 : decide (f < 1) = false := decide_eq_false a
    have g2 : decide (4 < f) = false := decide_eq_false b
    have g3 : decide (n < 1) = false := decide_eq_false d
    have g4 : decide (4 < n) = true := decide_eq_true e
    clear a b d e
    go_enter Try.func4, Try.ntmps4
    go_wp2_with fail
    refine HNew.out.mono ?_
    rintro e w2 ⟨rfl, rfl⟩
    go_wp2_with fail
    refine (HWk.out _).mono ?_
    rintro e w3 ⟨rfl, hb⟩
    go_wp2_with fail
    go_ret
    exact ⟨rfl, hb⟩
set_option maxHeartbeats 16000000 in
set_option maxRecDepth 100000 in
theorem plays_in (f n : Int) (A : Option Addr) (c : Nat) (l : List Ac) (A2 : Option Addr) (c2 : Nat) (m : List Ac) (w : World) (h : 1 ≤ f ∧ f ≤ 4 ∧ 1 ≤ n ∧ n ≤ 4) (w2 : IsActs w A l c) (w3 : IsActs w A2 m c2) : Calls Try.prog 4 #[.int .i64 f, .int .i64 n, .slice A l.length c, .slice A2 m.length c2] w fun e w' => e = .returned (.bool true) ∧ Below w.heap.size w w' := by
  have HL := Lib.hid w2
  have HM := Lib.hid w3
  obtain ⟨nl, hnl⟩ : ∃ nl, l.length = nl := ⟨_, rfl⟩
  obtain ⟨nm, hnm⟩ : ∃ nm, m.length = nm := ⟨_, rfl⟩
  have HNl := Lib.hid hnl
  have HNm := Lib.hid hnm
  rw [hnl, hnm]
  have HF := Lib.hid (fine_new h.1 h.2.1 h.2.2.1 h.2.2.2)
  have HNew := Lib.hid (rt_new h.1 h.2.1 h.2.2.1 h.2.2.2 w w (Below.refl _ _))
  have g1 : decide (f < 1) = false := decide_eq_false (by omega)
  have g2 : decide (4 < f) = false := decide_eq_false (by omega)
  have g3 : decide (n < 1) = false := decide_eq_false (by omega)
  have g4 : decide (4 < n) = false := decide_eq_false (by omega)
  clear h w2 w3 hnl hnm
  go_enter Try.func4, Try.ntmps4
  go_wp2_with fail
  refine HNew.out.mono ?_
  rintro e w2 ⟨tb, rfl, hR, -, -⟩
  have hbp : Below w2.heap.size w2 (w2.alloc (.cells #[.int .i64 f, .int .i64 n, .slice none 0 0] 46)) := (Below.refl _ _).alloc (Nat.le_refl _) _
  have hB : Bo w tb (.slice none 0 0) w2.heap.size (.slice none 0 0) f n [] (w2.alloc (.cells #[.int .i64 f, .int .i64 n, .slice none 0 0] 46)) :=
    ⟨hR.below hbp, ⟨Blk.new _ _ _, World.ownsRow_nil _ _ _ _, fun d hd => absurd hd (by simp), fun d hd => absurd hd (by simp), HF.out⟩, hR.low.size⟩
  obtain ⟨w3, hw3⟩ : ∃ w3, w2.alloc (.cells #[.int .i64 f, .int .i64 n, .slice none 0 0] 46) = w3 := ⟨_, rfl⟩
  obtain ⟨pb, hpb⟩ : ∃ pb, w2.heap.size = pb := ⟨_, rfl⟩
  rw [hw3, hpb] at hB
  have HB := Lib.hid hB
  have HW3 := Lib.hid hw3
  have HPb := Lib.hid hpb
  clear hR hbp hB hw3 hpb HNew HF
  go_wp2_with fail
  rw [HW3.out, HPb.out]
  go_loopw [12] (fun xi wr => ∃ (i : Nat) (v u : Value) (D : List Td), xi = .int .i64 i ∧ i ≤ nl ∧ i ≤ 80 ∧ Hid (Bo w tb v pb u f n D wr)) (fun xi _ => nl - (intOf xi).toNat)
  case atStart => exact ⟨0, _, _, _, rfl, Nat.zero_le _, Nat.zero_le _, HB.out⟩
  case round =>
    obtain ⟨i, v, u, D, rfl, hi, hi80, HS⟩ := hrel
    by_cases hlt : i < nl ∧ i < 80
    · obtain ⟨hlt1, hlt2⟩ := hlt
      have hil : i < l.length := by rw [HNl.out]; exact hlt1
      have HCa := Lib.hid ((HL.out.came _ (List.getElem_mem hil)).dd)
      obtain ⟨ad, rfl, hab, hA⟩ := act_at (HS.out.rt.has HL.out.has) hil
      obtain ⟨x, hx⟩ : ∃ x, l[i] = x := ⟨_, rfl⟩
      rw [hx] at hA HCa
      have HDo := Lib.hid (do_any HS.out.rt.tab HS.out.pw x HCa.out)
      have hlt3 : (i : Int) < (nl : Int) := by omega
      have hlt4 : (i : Int) < 80 := by omega
      have c0 := hA.c0
      have c1 := hA.c1
      have c2' := hA.c2
      have c3 := hA.c3
      have c4 := hA.c4
      have c5 := hA.c5
      have c6 := hA.c6
      have c7 := hA.c7
      have c8 := hA.c8
      have c9 := hA.c9
      have c10 := hA.c10
      clear hA
      clear hx hil hab
      go_wp2_with fail
      refine HDo.out.mono ?_
      rintro e w5 ⟨rfl, D', hpost⟩
      obtain ⟨v', u', hS5⟩ := HS.out.step hpost
      have HS5 := Lib.hid hS5
      clear hpost hS5 c0 c1 c2' c3 c4 c5 c6 c7 c8 c9 c10
      go_wp2_with fail
      go_roundw
      case rel => exact ⟨i + 1, v', u', _, by go_num, by omega, by omega, HS5⟩
      case measure => simp [intOf]; omega
    · by_cases h1 : i < nl
      · have h2 : i = 80 := by omega
        subst h2
        clear hlt
        have HRi := Lib.hid (right_any HS.out.rt.tab HS.out.pw)
        go_wp2_with fail
        refine HRi.out.mono ?_
        rintro e w5 ⟨rfl, hb5⟩
        have HS5 := Lib.hid (HS.out.below hb5)
        have HCl := Lib.hid (pclone_any HS5.out.rt.tab)
        clear hb5
        go_wp2_with fail
        refine HCl.out.mono ?_
        rintro e w6 ⟨cb, vc, rfl, htc, hcb, hlc, hb6⟩
        have hS6 := HS5.out.below hb6
        obtain ⟨Au, cu, rfl, -, -⟩ := own_slice hS6.pw.row
        have hbq : Below w6.heap.size w6 (w6.alloc (.cells #[.int .i64 f, .int .i64 n, .slice Au D.length cu] 46)) := (Below.refl _ _).alloc (Nat.le_refl _) _
        have h2 : Bo2 w tb v pb (.slice Au D.length cu) D cb vc w6.heap.size (.slice Au D.length cu) D f n (w6.alloc (.cells #[.int .i64 f, .int .i64 n, .slice Au D.length cu] 46)) := by
          have hw := HS5.out.rt.low.size
          have hS7 := hS6.below hbq
          refine ⟨hS7, ⟨⟨htc.below hbq, by omega, fun g hg => Nat.le_trans hw (hlc g hg), hS7.rt.low⟩, ⟨Blk.new _ _ _, hS7.pw.row, hS7.pw.nod, hS7.pw.ok, hS7.pw.fine⟩, hS6.rt.low.size⟩, fun k hk h2 => ?_, fun e => by have := hS6.pw.blk.lt; omega⟩
          have h3 := HS5.out.rt.tab.lt hk
          rcases h2 with e | e
          · omega
          · have := hlc k e; omega
        have e0 : w6.cell? ⟨pb, 0, none⟩ = some (.int .i64 f) := hS6.pw.blk.cell 0
        have e1 : w6.cell? ⟨pb, 1, none⟩ = some (.int .i64 n) := hS6.pw.blk.cell 1
        have e2 : w6.cell? ⟨pb, 2, none⟩ = some (.slice Au D.length cu) := hS6.pw.blk.cell 2
        obtain ⟨w7, hw7⟩ : ∃ w7, w6.alloc (.cells #[.int .i64 f, .int .i64 n, .slice Au D.length cu] 46) = w7 := ⟨_, rfl⟩
        obtain ⟨qb, hqb⟩ : ∃ qb, w6.heap.size = qb := ⟨_, rfl⟩
        rw [hw7, hqb] at h2
        have H2 := Lib.hid h2
        have HW7 := Lib.hid hw7
        have HQb := Lib.hid hqb
        clear htc hcb hlc hb6 hS6 hbq h2 hw7 hqb HS HS5 HCl HRi
        go_wp2_with fail
        rw [HW7.out, HQb.out]
        clear e0 e1 e2
        go_loopw [15] (fun xi wr => ∃ (i : Nat) (vc uq : Value) (E : List Td), xi = .int .i64 i ∧ i ≤ nm ∧ i ≤ 40 ∧ Hid (Bo2 w tb v pb (.slice Au D.length cu) D cb vc qb uq E f n wr)) (fun xi _ => nm - (intOf xi).toNat)
        case atStart => exact ⟨0, _, _, _, rfl, Nat.zero_le _, Nat.zero_le _, H2.out⟩
        case round =>
          obtain ⟨i, vc, uq, E, rfl, hi, hi40, HS⟩ := hrel
          by_cases hlt : i < nm ∧ i < 40
          · obtain ⟨hlt1, hlt2⟩ := hlt
            have him : i < m.length := by rw [HNm.out]; exact hlt1
            have HCa := Lib.hid ((HM.out.came _ (List.getElem_mem him)).dd)
            obtain ⟨ad, rfl, hab, hA⟩ := act_at (HS.out.b1.rt.has HM.out.has) him
            obtain ⟨x, hx⟩ : ∃ x, m[i] = x := ⟨_, rfl⟩
            rw [hx] at hA HCa
            have HDo := Lib.hid (do_any HS.out.b2.rt.tab HS.out.b2.pw x HCa.out)
            have hlt3 : (i : Int) < (nm : Int) := by omega
            have hlt4 : (i : Int) < 40 := by omega
            have c0 := hA.c0
            have c1 := hA.c1
            have c2' := hA.c2
            have c3 := hA.c3
            have c4 := hA.c4
            have c5 := hA.c5
            have c6 := hA.c6
            have c7 := hA.c7
            have c8 := hA.c8
            have c9 := hA.c9
            have c10 := hA.c10
            clear hA
            clear hx him hab
            go_wp2_with fail
            refine HDo.out.mono ?_
            rintro e w8 ⟨rfl, E', hpost⟩
            obtain ⟨vc', uq', hS8⟩ := HS.out.step hpost
            have HS8 := Lib.hid hS8
            clear hpost hS8 c0 c1 c2' c3 c4 c5 c6 c7 c8 c9 c10
            go_wp2_with fail
            go_roundw
            case rel => exact ⟨i + 1, vc', uq', _, by go_num, by omega, by omega, HS8⟩
            case measure => simp [intOf]; omega
          · by_cases h1 : i < nm
            · have h2 : i = 40 := by omega
              subst h2
              clear hlt
              have HRa := Lib.hid (right_any HS.out.b2.rt.tab HS.out.b2.pw)
              go_wp2_with fail
              refine HRa.out.mono ?_
              rintro e w9 ⟨rfl, hb9⟩
              have HS9 := Lib.hid (HS.out.below hb9)
              have HRb := Lib.hid (right_any HS9.out.b1.rt.tab HS9.out.b1.pw)
              clear hb9
              go_wp2_with fail
              refine HRb.out.mono ?_
              rintro e w10 ⟨rfl, hb10⟩
              have HS10 := Lib.hid (HS9.out.below hb10)
              clear hb10
              go_wp2_with fail
              refine (wakes13_any _).mono ?_
              rintro e w11 ⟨rfl, hb11⟩
              have HS11 := Lib.hid (HS10.out.below hb11)
              clear hb11
              go_wp2_with fail
              go_ret
              exact ⟨rfl, HS11.out.b1.rt.low⟩
            · have h2 : decide ((i : Int) < (nm : Int)) = false := decide_eq_false (by omega)
              have h3 : decide (i < nm) = false := decide_eq_false h1
              clear hlt h1
              have HRa := Lib.hid (right_any HS.out.b2.rt.tab HS.out.b2.pw)
              go_wp2_with fail
              refine HRa.out.mono ?_
              rintro e w9 ⟨rfl, hb9⟩
              have HS9 := Lib.hid (HS.out.below hb9)
              have HRb := Lib.hid (right_any HS9.out.b1.rt.tab HS9.out.b1.pw)
              clear hb9
              go_wp2_with fail
              refine HRb.out.mono ?_
              rintro e w10 ⟨rfl, hb10⟩
              have HS10 := Lib.hid (HS9.out.below hb10)
              clear hb10
              go_wp2_with fail
              refine (wakes13_any _).mono ?_
              rintro e w11 ⟨rfl, hb11⟩
              have HS11 := Lib.hid (HS10.out.below hb11)
              clear hb11
              go_wp2_with fail
              go_ret
              exact ⟨rfl, HS11.out.b1.rt.low⟩
      · have h2 : decide ((i : Int) < (nl : Int)) = false := decide_eq_false (by omega)
        have h3 : decide (i < nl) = false := decide_eq_false h1
        clear hlt h1
        have HRi := Lib.hid (right_any HS.out.rt.tab HS.out.pw)
        go_wp2_with fail
        refine HRi.out.mono ?_
        rintro e w5 ⟨rfl, hb5⟩
        have HS5 := Lib.hid (HS.out.below hb5)
        have HCl := Lib.hid (pclone_any HS5.out.rt.tab)
        clear hb5
        go_wp2_with fail
        refine HCl.out.mono ?_
        rintro e w6 ⟨cb, vc, rfl, htc, hcb, hlc, hb6⟩
        have hS6 := HS5.out.below hb6
        obtain ⟨Au, cu, rfl, -, -⟩ := own_slice hS6.pw.row
        have hbq : Below w6.heap.size w6 (w6.alloc (.cells #[.int .i64 f, .int .i64 n, .slice Au D.length cu] 46)) := (Below.refl _ _).alloc (Nat.le_refl _) _
        have h2 : Bo2 w tb v pb (.slice Au D.length cu) D cb vc w6.heap.size (.slice Au D.length cu) D f n (w6.alloc (.cells #[.int .i64 f, .int .i64 n, .slice Au D.length cu] 46)) := by
          have hw := HS5.out.rt.low.size
          have hS7 := hS6.below hbq
          refine ⟨hS7, ⟨⟨htc.below hbq, by omega, fun g hg => Nat.le_trans hw (hlc g hg), hS7.rt.low⟩, ⟨Blk.new _ _ _, hS7.pw.row, hS7.pw.nod, hS7.pw.ok, hS7.pw.fine⟩, hS6.rt.low.size⟩, fun k hk h2 => ?_, fun e => by have := hS6.pw.blk.lt; omega⟩
          have h3 := HS5.out.rt.tab.lt hk
          rcases h2 with e | e
          · omega
          · have := hlc k e; omega
        have e0 : w6.cell? ⟨pb, 0, none⟩ = some (.int .i64 f) := hS6.pw.blk.cell 0
        have e1 : w6.cell? ⟨pb, 1, none⟩ = some (.int .i64 n) := hS6.pw.blk.cell 1
        have e2 : w6.cell? ⟨pb, 2, none⟩ = some (.slice Au D.length cu) := hS6.pw.blk.cell 2
        obtain ⟨w7, hw7⟩ : ∃ w7, w6.alloc (.cells #[.int .i64 f, .int .i64 n, .slice Au D.length cu] 46) = w7 := ⟨_, rfl⟩
        obtain ⟨qb, hqb⟩ : ∃ qb, w6.heap.size = qb := ⟨_, rfl⟩
        rw [hw7, hqb] at h2
        have H2 := Lib.hid h2
        have HW7 := Lib.hid hw7
        have HQb := Lib.hid hqb
        clear htc hcb hlc hb6 hS6 hbq h2 hw7 hqb HS HS5 HCl HRi
        go_wp2_with fail
        rw [HW7.out, HQb.out]
        clear e0 e1 e2
        go_loopw [15] (fun xi wr => ∃ (i : Nat) (vc uq : Value) (E : List Td), xi = .int .i64 i ∧ i ≤ nm ∧ i ≤ 40 ∧ Hid (Bo2 w tb v pb (.slice Au D.length cu) D cb vc qb uq E f n wr)) (fun xi _ => nm - (intOf xi).toNat)
        case atStart => exact ⟨0, _, _, _, rfl, Nat.zero_le _, Nat.zero_le _, H2.out⟩
        case round =>
          obtain ⟨i, vc, uq, E, rfl, hi, hi40, HS⟩ := hrel
          by_cases hlt : i < nm ∧ i < 40
          · obtain ⟨hlt1, hlt2⟩ := hlt
            have him : i < m.length := by rw [HNm.out]; exact hlt1
            have HCa := Lib.hid ((HM.out.came _ (List.getElem_mem him)).dd)
            obtain ⟨ad, rfl, hab, hA⟩ := act_at (HS.out.b1.rt.has HM.out.has) him
            obtain ⟨x, hx⟩ : ∃ x, m[i] = x := ⟨_, rfl⟩
            rw [hx] at hA HCa
            have HDo := Lib.hid (do_any HS.out.b2.rt.tab HS.out.b2.pw x HCa.out)
            have hlt3 : (i : Int) < (nm : Int) := by omega
            have hlt4 : (i : Int) < 40 := by omega
            have c0 := hA.c0
            have c1 := hA.c1
            have c2' := hA.c2
            have c3 := hA.c3
            have c4 := hA.c4
            have c5 := hA.c5
            have c6 := hA.c6
            have c7 := hA.c7
            have c8 := hA.c8
            have c9 := hA.c9
            have c10 := hA.c10
            clear hA
            clear hx him hab
            go_wp2_with fail
            refine HDo.out.mono ?_
            rintro e w8 ⟨rfl, E', hpost⟩
            obtain ⟨vc', uq', hS8⟩ := HS.out.step hpost
            have HS8 := Lib.hid hS8
            clear hpost hS8 c0 c1 c2' c3 c4 c5 c6 c7 c8 c9 c10
            go_wp2_with fail
            go_roundw
            case rel => exact ⟨i + 1, vc', uq', _, by go_num, by omega, by omega, HS8⟩
            case measure => simp [intOf]; omega
          · by_cases h1 : i < nm
            · have h2 : i = 40 := by omega
              subst h2
              clear hlt
              have HRa := Lib.hid (right_any HS.out.b2.rt.tab HS.out.b2.pw)
              go_wp2_with fail
              refine HRa.out.mono ?_
              rintro e w9 ⟨rfl, hb9⟩
              have HS9 := Lib.hid (HS.out.below hb9)
              have HRb := Lib.hid (right_any HS9.out.b1.rt.tab HS9.out.b1.pw)
              clear hb9
              go_wp2_with fail
              refine HRb.out.mono ?_
              rintro e w10 ⟨rfl, hb10⟩
              have HS10 := Lib.hid (HS9.out.below hb10)
              clear hb10
              go_wp2_with fail
              refine (wakes13_any _).mono ?_
              rintro e w11 ⟨rfl, hb11⟩
              have HS11 := Lib.hid (HS10.out.below hb11)
              clear hb11
              go_wp2_with fail
              go_ret
              exact ⟨rfl, HS11.out.b1.rt.low⟩
            · have h2 : decide ((i : Int) < (nm : Int)) = false := decide_eq_false (by omega)
              have h3 : decide (i < nm) = false := decide_eq_false h1
              clear hlt h1
              have HRa := Lib.hid (right_any HS.out.b2.rt.tab HS.out.b2.pw)
              go_wp2_with fail
              refine HRa.out.mono ?_
              rintro e w9 ⟨rfl, hb9⟩
              have HS9 := Lib.hid (HS.out.below hb9)
              have HRb := Lib.hid (right_any HS9.out.b1.rt.tab HS9.out.b1.pw)
              clear hb9
              go_wp2_with fail
              refine HRb.out.mono ?_
              rintro e w10 ⟨rfl, hb10⟩
              have HS10 := Lib.hid (HS9.out.below hb10)
              clear hb10
              go_wp2_with fail
              refine (wakes13_any _).mono ?_
              rintro e w11 ⟨rfl, hb11⟩
              have HS11 := Lib.hid (HS10.out.below hb11)
              clear hb11
              go_wp2_with fail
              go_ret
              exact ⟨rfl, HS11.out.b1.rt.low⟩
theorem propPlays_walk (f n : Int) (A : Option Addr) (c : Nat) (l : List Ac) (A2 : Option Addr) (c2 : Nat) (m : List Ac) (w : World) (_ : (Lit.int .i64 f).wf = true) (_ : (Lit.int .i64 n).wf = true) (w2 : IsActs w A l c) (w3 : IsActs w A2 m c2) :
    Calls Try.prog 4 #[.int .i64 f, .int .i64 n, .slice A l.length c, .slice A2 m.length c2] w fun e w' => e = .returned (.bool true) ∧ Below w.heap.size w w' := by
  by_cases h : 1 ≤ f ∧ f ≤ 4 ∧ 1 ≤ n ∧ n ≤ 4
  · exact plays_in f n A c l A2 c2 m w h w2 w3
  · exact plays_out f n A c l A2 c2 m w h
end Go.Proofs.Ytbpefdnlldpjiaa

namespace Go.Proofs.Ytbpefdnlldpjiaa.propPlays
open Go.ChangeShapes Go.WideShapes Go.ChangeAt Go.RowKit
set_option linter.unusedVariables false
theorem own : ownKnob Try.prog.godebug = none := by kernel_rfl
theorem laidOut : laidOutB Try.prog = true := by kernel_rfl
set_option maxRecDepth 100000 in
theorem lifted (os : Os) (started : os.Started) (H : Type) (enc : TypeId × Value → H) :
    ReturnsInHanded {} Try.checked os 4 .any (Rows.propPlaysSpec.pre6 enc Try.prog Try.f4 Rows.propPlaysRow.domain false) (Rows.propPlaysSpec.post enc Try.prog Try.f4 false true false false) := by
  refine returnsInHanded_of_change (C := Try.checked) own started (by kernel_rfl) Try.func4
    (ChangeSpec.witness6 (enc := enc) (C := Try.checked) false ⟨#[], #[.int .i64 0, .int .i64 0, .slice none 0 0, .slice none 0 0], []⟩ 8 (by kernel_rfl) (by kernel_rfl) (by kernel_rfl) (by kernel_rfl)) ?_
  intro W base args ds gs before hval0 hW hcnd _
  have hval : ∀ (j : Nat) t v, Try.f4.params[j]? = some t → args[j]? = some v → Value.okWide Try.prog W .any base t v := hval0
  have hW' := hW
  obtain ⟨p, q, hA0, hV, rfl, hfz, hnd⟩ := hW
  have hA : DataW.TrodAll enc Try.prog W 0 (fun _ => true) true Try.f4.params.toList args.toList ds p := hA0
  rw [Try.params4] at hA hval
  obtain ⟨v0, vs0, d0, ds0, p0, q0, hargs, rfl, rfl, h0, r0⟩ := trodAll_cons hA
  obtain ⟨v1, vs1, d1, ds1, p1, q1, rfl, rfl, rfl, h1, r1⟩ := trodAll_cons r0
  obtain ⟨v2, vs2, d2, ds2, p2, q2, rfl, rfl, rfl, h2, r2⟩ := trodAll_cons r1
  obtain ⟨v3, vs3, d3, ds3, p3, q3, rfl, rfl, rfl, h3, r3⟩ := trodAll_cons r2
  obtain ⟨rfl, rfl, rfl⟩ := trodAll_nil r3
  obtain rfl : args = #[v0, v1, v2, v3] := by cases args; simp_all
  obtain ⟨rfl, rfl⟩ := trodVars_none hV
  obtain ⟨a0, rfl, rfl, rfl, w0⟩ := open_int Try.underlying3 (hval 0 3 v0 rfl rfl) h0
  obtain ⟨a1, rfl, rfl, rfl, w1⟩ := open_int Try.underlying3 (hval 1 3 v1 rfl rfl) h1
  obtain ⟨a2, len2, c2, rfl⟩ := okWide_slice Try.underlying42 (hval 2 42 v2 rfl rfl)
  have k2 := h2
  have lt2 : ∀ x ∈ p2, x.block < W.heap.size := by obtain ⟨m, hm⟩ := k2; exact DataW.trod_lt m _ _ _ hm
  obtain ⟨z2, hl2, w2⟩ : ∃ zs : List Ac, zs.length = len2 ∧ IsActs W a2 zs c2 := by
    obtain ⟨fuel, hf⟩ := h2
    exact open_acts hf
  subst hl2
  obtain ⟨a3, len3, c3, rfl⟩ := okWide_slice Try.underlying42 (hval 3 42 v3 rfl rfl)
  have k3 := h3
  have lt3 : ∀ x ∈ p3, x.block < W.heap.size := by obtain ⟨m, hm⟩ := k3; exact DataW.trod_lt m _ _ _ hm
  obtain ⟨z3, hl3, w3⟩ : ∃ zs : List Ac, zs.length = len3 ∧ IsActs W a3 zs c3 := by
    obtain ⟨fuel, hf⟩ := h3
    exact open_acts hf
  subst hl3
  clear hA0 hval0
  refine (propPlays_walk a0 a1 a2 c2 z2 a3 c3 z3 W w0 w1 w2 w3).mono fun e W' ⟨he, bel⟩ => ?_
  subst he
  exact ⟨_, rfl, _, _, _, [], _, [], hW', trodAll_mk1 (shut_bool Try.underlying4 _), (trodAll_cons_mk (shut_int Try.underlying3 w0) (trodAll_cons_mk (shut_int Try.underlying3 w1) (trodAll_cons_mk (Below.trod laidOut (by kernel_rfl) (of_decide_eq_true (by kernel_rfl)) k2 bel lt2) (trodAll_cons_mk (Below.trod laidOut (by kernel_rfl) (of_decide_eq_true (by kernel_rfl)) k3 bel lt3) trodAll_mk0)))), rfl, bel.frame _, fun h => by cases h⟩
/-- The given statement. -/
theorem proved : Rows.PropPlaysSaid :=
  OpenClaim.holds_of_wide 4 Try.f4 rfl rfl rfl rfl rfl rfl rfl ⟨rfl, rfl, rfl, rfl, rfl⟩ rfl rfl rfl rfl rfl (by kernel_rfl) Try.func4 (by kernel_rfl)
    (of_decide_eq_true (by kernel_rfl)) (by unfold Func.isWrapper; rw [if_neg (by decide +kernel)]; exact ⟨rfl, rfl⟩)
    (fun os started H enc _ => lifted os started H enc)
end Go.Proofs.Ytbpefdnlldpjiaa.propPlays
