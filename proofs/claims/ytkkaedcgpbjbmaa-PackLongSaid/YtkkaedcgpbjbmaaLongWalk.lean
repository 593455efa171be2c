/- The walk of PackLong: it returns true for any int. -/
import Derived.Test.YtkkaedcgpbjbmaaBoth
import Derived.Test.YtkkaedcgpbjbmaaWithin
import Derived.Laws.MakeOwn
import Derived.Lib.AppendZeros
namespace Go.Proofs.Ytkkaedcgpbjbmaa
open Go.RowKit

section
variable {P : Program} (w : World)
/-- append(s, make([]T, m)...) where there is no room: one draw; a new row, the old cells, zeros. -/
theorem run_append_zeros (t tn ty e : TypeId) (i : TypeInfo) (z : Value) (kn : IntKind) (ht : P.underlying t = some (.slice e)) (htn : P.underlying tn = some (.int kn)) (hi : P.info? e = some i) (hz : i.zero = some z)
    (b : Addr) (sLen sCap : Nat) (olds : List Value) (hlo : olds.length = sLen * i.size) (holds : ∀ j v, olds[j]? = some v → w.cell? (b.add j) = some v)
    (n : Nat) (h0 : 0 < n) (hs : 0 < i.size) (hg : sCap < sLen + n) (h63 : ((sLen + n : Nat) : Int) ≤ 9223372036854775807) (h48 : n * i.bytes ≤ 281474976710656) (hfit : Builtin.nextslicecap (sLen + n) sCap * i.bytes ≤ 281474976710656) :
    (Builtin.append_ #[t, tn] ty #[.slice (some b) sLen sCap, .int .i64 n]).run P w =
      .ok (.slice (some ⟨w.heap.size, 0, none⟩) (sLen + n) (grownCap w (sLen + n) sCap e))
        (w.drew.alloc (.cells (olds.toArray ++ Builtin.zeroCells z.cells n ++ Builtin.zeroCells z.cells (grownCap w (sLen + n) sCap e - (sLen + n))) e)) := by
  have hn : ¬ (sLen + n ≤ sCap) := by omega
  have hw : IntKind.i64.wrap (n : Int) = n := by rw [IntKind.wrap_i64]; omega
  have h63' : ¬ (9223372036854775807 < ((sLen : Int) + (n : Int))) := by omega
  have h48' : ¬ (281474976710656 < Builtin.nextslicecap (sLen + n) sCap * i.bytes) := by omega
  have h48i : ¬ (281474976710656 < (n : Int) * (i.bytes : Int)) := by
    rw [← Int.natCast_mul]
    omega
  have hneg : ¬ ((n : Int) < 0) := by omega
  have hns : ¬ (n * i.size = 0) := Nat.mul_ne_zero (by omega) (by omega)
  have hfo := run_firstCells_some (P := P) w.drew i.size sLen b sLen sCap olds hlo (by simpa using holds)
  simp [Builtin.append_, run_underlying ht, run_underlying htn, sizeOf, typeInfo, zeroValue, hi, hz, asInt, asIntOf, hw, hn, hneg, hns, h63', h48', h48i, Question.forced, hfo, newRow, grownCap]
end
theorem run_make_rowN {P : Program} (t e : TypeId) (i : TypeInfo) (z : Value) (ht : P.underlying t = some (.slice e)) (hi : P.info? e = some i) (hz : i.zero = some z)
    (kl kc : IntKind) (n c : Nat) (hnc : n ≤ c) (hbytes : i.bytes * c ≤ 281474976710656) (h63 : c ≤ 9223372036854775807) (w : World) :
    (Instr.makeSlice t (.int kl (n : Int)) (.int kc (c : Int))).run P w = .ok (.slice (some ⟨w.heap.size, 0, none⟩) n c) (w.alloc (.cells (madeCells z.cells (c * i.size)) e)) := by
  have hb : (i.bytes : Int) * (c : Int) ≤ 281474976710656 := by
    have h : ((i.bytes * c : Nat) : Int) ≤ 281474976710656 := by omega
    rwa [Int.natCast_mul] at h
  have hr := run_make (P := P) w t e i z ht hi hz kl kc n c (by omega) (by omega) hb (by omega)
  simp only [Int.toNat_natCast] at hr
  exact hr
theorem zeroCells_one (v : Value) (n : Nat) : (Builtin.zeroCells #[v] n).toList = List.replicate n v := by
  apply List.ext_getElem?
  intro j
  by_cases h : j < n <;> simp [Builtin.zeroCells, h, Nat.mod_one]
theorem Has.prefix_ {w : World} {B : Nat} {A : Option Addr} {xs ys : List Value} (h : Has w B A (xs ++ ys)) : Has w B A xs := fun j u hj => by
  refine h j u ?_
  rw [List.getElem?_append_left (List.getElem?_eq_some_iff.1 hj).1]
  exact hj
theorem made_flat {z : Array Value} {s : Nat} (hs : z.size = s) (h0 : 0 < s) (n : Nat) : (madeCells z (n * s)).toList = (List.replicate n ()).flatMap fun _ => z.toList := by
  subst hs
  apply List.ext_getElem?
  intro j
  by_cases hj : j < n * z.size
  · have hk : j / z.size < (List.replicate n ()).length := by rw [List.length_replicate]; exact (Nat.div_lt_iff_lt_mul h0).2 hj
    have hi : j % z.size < z.size := Nat.mod_lt _ h0
    have he : j / z.size * z.size + j % z.size = j := by rw [Nat.mul_comm]; exact Nat.div_add_mod j z.size
    have h1 := flatMap_at (f := fun _ : Unit => z.toList) (s := z.size) (fun _ => by simp) hk hi
    rw [he] at h1
    rw [h1]
    simp [madeCells, hj, hi]
  · have h2 : ((List.replicate n ()).flatMap fun _ => z.toList).length = n * z.size := by
      rw [flatMap_len (s := z.size) (fun _ => by simp)]; simp
    rw [List.getElem?_eq_none (by simp [madeCells]; omega), List.getElem?_eq_none (by omega)]
theorem rep_flat {α : Type} (f : α → List Value) (x : α) (n : Nat) : (List.replicate n x).flatMap f = (List.replicate n ()).flatMap fun _ => f x := by
  induction n with
  | zero => rfl
  | succ n ih => simp only [List.replicate_succ, List.flatMap_cons, ih]
theorem codes_all {ts : List Tok} (h : ∀ t ∈ ts, ∃ m, t.code = some m) : ∃ ns, codes ts = some ns := by
  induction ts with
  | nil => exact ⟨[], rfl⟩
  | cons t l ih =>
    obtain ⟨m, h1⟩ := h t (List.mem_cons_self ..)
    obtain ⟨ns, h2⟩ := ih fun t ht => h t (List.mem_cons_of_mem _ ht)
    exact ⟨m :: ns, codes_cons.2 ⟨m, ns, h1, h2, rfl⟩⟩
def zv : Vt := ⟨0, 0⟩
def zc : Ct := ⟨0, 0, 0, [], []⟩
theorem num0 : (Tok.num 0).code = some 0 := code_num.2 ⟨rfl, by omega⟩
theorem len0 : (Tok.len 0).code = some 0 := code_len.2 ⟨rfl, by omega⟩
theorem long_no {α : Type} {f : α → List Tok} {x : α} {n : Nat} (h : 256 < n) : bytesOf (listToks f (List.replicate n x)) = none := by
  simp only [bytesOf, Option.map_eq_none_iff, listToks, List.length_replicate]
  exact codes_none_head (show (Tok.len n).code = none from if_neg (by omega))
theorem long_votes {n : Nat} (h : n ≤ 256) : ∃ bs, bytesOf (listToks Vt.toks (List.replicate n zv)) = some bs := by
  obtain ⟨ns, h1⟩ := codes_all (ts := listToks Vt.toks (List.replicate n zv)) (fun t ht => by
    rcases List.mem_cons.1 ht with rfl | ht
    · exact ⟨n, by rw [List.length_replicate]; exact code_len.2 ⟨rfl, h⟩⟩
    · obtain ⟨x, hx, h2⟩ := List.mem_flatMap.1 ht
      rw [List.eq_of_mem_replicate hx] at h2
      simp [Vt.toks, zv] at h2
      subst h2
      exact ⟨0, num0⟩)
  exact ⟨flat ns, by simp [bytesOf, h1]⟩
theorem long_certs {n : Nat} (h : n ≤ 256) : ∃ bs, bytesOf (listToks Ct.toks (List.replicate n zc)) = some bs := by
  obtain ⟨ns, h1⟩ := codes_all (ts := listToks Ct.toks (List.replicate n zc)) (fun t ht => by
    rcases List.mem_cons.1 ht with rfl | ht
    · exact ⟨n, by rw [List.length_replicate]; exact code_len.2 ⟨rfl, h⟩⟩
    · obtain ⟨x, hx, h2⟩ := List.mem_flatMap.1 ht
      rw [List.eq_of_mem_replicate hx] at h2
      simp [Ct.toks, zc, listToks] at h2
      rcases h2 with rfl | rfl
      · exact ⟨0, num0⟩
      · exact ⟨0, len0⟩)
  exact ⟨flat ns, by simp [bytesOf, h1]⟩
theorem long_len {n : Nat} : (listToks Ct.toks (List.replicate n zc)).length = 1 + 5 * n := by
  have h : ((List.replicate n zc).flatMap Ct.toks).length = n * 5 := by
    induction n with
    | zero => rfl
    | succ n ih => rw [List.replicate_succ, List.flatMap_cons, List.length_append, ih, cert_toks]; simp [zc]; omega
  simp [listToks, h]; omega
/-- The bytes of a list of so many zero votes. -/
def longBytes (m : Nat) : List Int := [((128 + m % 128 : Nat) : Int), ((m / 128 : Nat) : Int)] ++ List.replicate (2 * m) 0
theorem long_enc {m : Nat} (h1 : 250 ≤ m) (h2 : m ≤ 261) : enc m = [((128 + m % 128 : Nat) : Int), ((m / 128 : Nat) : Int)] := by
  rw [enc_big (by omega), enc_small (by omega), Nat.add_comm]
theorem long_u8 {m : Nat} (h2 : m ≤ 261) : ∀ z ∈ longBytes m, 0 ≤ z ∧ z ≤ 255 := fun z hz => by
  rcases List.mem_append.1 hz with h | h
  · simp at h
    rcases h with rfl | rfl <;> omega
  · rw [List.eq_of_mem_replicate h]; omega
theorem long_none {m : Nat} (h1 : 256 < m) (h2 : m ≤ 261) : tkVotes (longBytes m) 0 = none := by
  have h := tk_enc [] (List.replicate (2 * m) 0) m (by omega)
  rw [long_enc (by omega) h2] at h
  have h3 : tk (longBytes m) 0 = some (m, 2) := by simpa [longBytes] using h
  simp only [tkVotes, tkList, tkLen, h3, if_neg (show ¬ m ≤ 256 by omega)]
theorem long_some {m : Nat} (h1 : 250 ≤ m) (h2 : m ≤ 256) : tkVotes (longBytes m) 0 = some (List.replicate m zv, ((2 + 2 * m : Nat) : Int)) := by
  have hc0 : ∀ n, codes ((List.replicate n zv).flatMap Vt.toks) = some (List.replicate (2 * n) 0) := fun n => by
    induction n with
    | zero => rfl
    | succ n ih =>
      rw [List.replicate_succ, List.flatMap_cons]
      have h3 : codes (zv.toks ++ (List.replicate n zv).flatMap Vt.toks) = some ([0, 0] ++ List.replicate (2 * n) 0) := codes_app_some (codes_cons.2 ⟨0, [0], num0, codes_one num0, rfl⟩ : codes zv.toks = some [0, 0]) ih
      rw [h3, show 2 * (n + 1) = 2 * n + 1 + 1 by omega, List.replicate_succ, List.replicate_succ]
      rfl
  have hc : codes (listToks Vt.toks (List.replicate m zv)) = some (m :: List.replicate (2 * m) 0) := by
    unfold listToks
    rw [List.length_replicate]
    exact codes_cons.2 ⟨m, _, code_len.2 ⟨rfl, h2⟩, hc0 m, rfl⟩
  have hf0 : ∀ n, flat (List.replicate n 0) = List.replicate n (0 : Int) := fun n => by
    induction n with
    | zero => rfl
    | succ n ih => rw [List.replicate_succ, flat_cons, ih, enc_small (by omega), List.replicate_succ]; rfl
  have hf : flat (m :: List.replicate (2 * m) 0) = longBytes m := by
    rw [flat_cons, hf0, long_enc h1 (by omega)]
    rfl
  have hb : bytesOf (listToks Vt.toks (List.replicate m zv)) = some (longBytes m) := by simp only [bytesOf, hc, Option.map_some, hf]
  rw [taken0 (f := tkVotes) tells_votes hb]
  simp [longBytes]
  omega
theorem pack_votes_is {l : List Vt} {A : Option Addr} {c n : Nat} (hn : l.length = n) (hsz : 6 * (listToks Vt.toks l).length ≤ 70368744177664) (w : World) (hh : Has w w.heap.size A (voteCells l)) :
    Calls Try.prog 20 #[.slice A n c] w (BytesPost (listToks Vt.toks l) w) := by
  subst hn
  exact pack_votes l A c w hh hsz
theorem pack_certs_is {l : List Ct} {A : Option Addr} {c n : Nat} (hn : l.length = n) (hsz : 6 * (listToks Ct.toks l).length ≤ 70368744177664) (w : World) (hh : HasCerts w w.heap.size A l) :
    Calls Try.prog 18 #[.slice A n c] w (BytesPost (listToks Ct.toks l) w) := by
  subst hn
  exact pack_certs l A c w hh hsz
/-- What append makes of the two bytes and so many zeros. -/
theorem long_row (w2 : World) (m M : Nat) (x0 x1 : Int) (hM : M = 2 * m) (hx0 : x0 = ((128 + m % 128 : Nat) : Int)) (hx1 : x1 = ((m / 128 : Nat) : Int)) (hm : 250 ≤ m) (hm2 : m ≤ 261) :
    ∃ A c w3, (Builtin.append_ #[24, 3] 24 #[.slice (some ⟨w2.heap.size, 0, none⟩) 2 2, .int .i64 M]).run Try.prog (w2.alloc (.cells #[.int .u8 x0, .int .u8 x1] 5)) = .ok (.slice A (2 + M) c) w3 ∧
      Has w3 w3.heap.size A (u8s (longBytes m)) ∧ Below w2.heap.size w2 w3 := by
  obtain ⟨iu, hiu, hu0, hu1, hu2⟩ := info_parts Try.info5
  have hr := run_append_zeros (P := Try.prog) (w2.alloc (.cells #[.int .u8 x0, .int .u8 x1] 5)) 24 3 24 5 iu (.int .u8 0) .i64 Try.underlying24 Try.underlying3 hiu hu0
    ⟨w2.heap.size, 0, none⟩ 2 2 [.int .u8 x0, .int .u8 x1] (by rw [hu1]; rfl) (World.news_of_block (cs := #[.int .u8 x0, .int .u8 x1]) (heap_alloc_new w2 _)) M (by omega) (by omega) (by omega) (by omega) (by rw [hu2]; omega) (by rw [hu2]; exact growslice_fits (by omega) (by omega))
  refine ⟨_, _, _, hr, ?_, ?_⟩
  · have h := Has.fresh (w2.alloc (.cells #[.int .u8 x0, .int .u8 x1] 5)).drew (([Value.int .u8 x0, Value.int .u8 x1]).toArray ++ Builtin.zeroCells (Value.int .u8 0).cells M ++ Builtin.zeroCells (Value.int .u8 0).cells (grownCap (w2.alloc (.cells #[.int .u8 x0, .int .u8 x1] 5)) (2 + M) 2 5 - (2 + M))) 5
    rw [Array.toList_append] at h
    have h2 := h.prefix_
    rw [Array.toList_append, show (Value.int .u8 0).cells = #[Value.int .u8 0] from rfl, zeroCells_one] at h2
    have e : u8s (longBytes m) = ([Value.int .u8 x0, Value.int .u8 x1]).toArray.toList ++ List.replicate M (Value.int .u8 0) := by
      rw [hx0, hx1, hM]
      simp [longBytes, u8s]
    rw [e]
    rw [World.size_alloc]
    exact h2
  · exact (((Below.refl _ w2).alloc (Nat.le_refl _) _).drew).alloc (by simp) _

set_option maxHeartbeats 4000000 in
set_option maxRecDepth 100000 in
theorem packLong_walk (i : Int) (w : World) (w0 : (Lit.int .i64 i).wf = true) :
    Calls Try.prog 11 #[.int .i64 i] w fun e w' => e = .returned (.bool true) ∧ Below w.heap.size w w' := by
  have hI := wf_i64 w0
  obtain ⟨iv, hiv, hv0, hv1, hv2⟩ := info_parts Try.info43
  obtain ⟨ic, hic, hc0, hc1, hc2⟩ := info_parts Try.info85
  obtain ⟨iu, hiu, hu0, hu1, hu2⟩ := info_parts Try.info5
  have h12 := Int.emod_nonneg i (show (12 : Int) ≠ 0 by omega)
  have h13 := Int.emod_lt_of_pos i (show (0 : Int) < 12 by omega)
  obtain ⟨q, hq⟩ : ∃ q : Nat, i % 12 = q := ⟨(i % 12).toNat, by omega⟩
  obtain ⟨m, hm⟩ : ∃ m : Nat, m = 250 + q := ⟨_, rfl⟩
  have hm1 : 250 ≤ m := by omega
  have hm2 : m ≤ 261 := by omega
  have HW := Lib.hid (fun w => within_any i 12 (by omega) (by omega) hI.1 hI.2 w)
  rw [hq] at HW
  have hqm : (250 : Int) + (q : Int) = (m : Int) := by omega
  have hq0 : q ≤ 11 := by omega
  have hmk1 : ∀ w : World, (Instr.makeSlice 36 (.int .i64 (m : Int)) (.int .i64 (m : Int))).run Try.prog w = .ok (.slice (some ⟨w.heap.size, 0, none⟩) m m) (w.alloc (.cells (madeCells #[.int .i64 0, .int .i64 0] (m * 2)) 43)) := fun w => by
    have h := run_make_rowN 36 43 iv _ Try.underlying36 hiv hv0 .i64 .i64 m m (Nat.le_refl _) (by rw [hv2]; omega) (by omega) w
    rw [hv1] at h
    exact h
  have hmk2 : ∀ w : World, (Instr.makeSlice 35 (.int .i64 (m : Int)) (.int .i64 (m : Int))).run Try.prog w = .ok (.slice (some ⟨w.heap.size, 0, none⟩) m m) (w.alloc (.cells (madeCells #[.int .i64 0, .int .i64 0, .int .i64 0, .slice none 0 0, .slice none 0 0] (m * 5)) 85)) := fun w => by
    have h := run_make_rowN 35 85 ic _ Try.underlying35 hic hc0 .i64 .i64 m m (Nat.le_refl _) (by rw [hc2]; omega) (by omega) w
    rw [hc1] at h
    exact h
  have HV := Lib.hid (fun w : World => show Has (w.alloc (.cells (madeCells #[.int .i64 0, .int .i64 0] (m * 2)) 43)) (w.alloc (.cells (madeCells #[.int .i64 0, .int .i64 0] (m * 2)) 43)).heap.size (some ⟨w.heap.size, 0, none⟩) (voteCells (List.replicate m zv)) from by
    have h := Has.fresh w (madeCells #[.int .i64 0, .int .i64 0] (m * 2)) 43
    rw [made_flat (s := 2) (z := #[.int .i64 0, .int .i64 0]) rfl (by omega)] at h
    unfold voteCells
    rw [rep_flat, World.size_alloc]
    exact h)
  have HC := Lib.hid (fun w : World => show HasCerts (w.alloc (.cells (madeCells #[.int .i64 0, .int .i64 0, .int .i64 0, .slice none 0 0, .slice none 0 0] (m * 5)) 85)) (w.alloc (.cells (madeCells #[.int .i64 0, .int .i64 0, .int .i64 0, .slice none 0 0, .slice none 0 0] (m * 5)) 85)).heap.size (some ⟨w.heap.size, 0, none⟩) (List.replicate m zc) from by
    have h := Has.fresh w (madeCells #[.int .i64 0, .int .i64 0, .int .i64 0, .slice none 0 0, .slice none 0 0] (m * 5)) 85
    rw [made_flat (s := 5) (z := #[.int .i64 0, .int .i64 0, .int .i64 0, .slice none 0 0, .slice none 0 0]) rfl (by omega)] at h
    refine ⟨List.replicate m ⟨zc, none, 0, none, 0⟩, by simp, ?_, fun x hx => ?_⟩
    · rw [rep_flat, World.size_alloc]
      exact h
    · rw [List.eq_of_mem_replicate hx]
      exact ⟨Has.nil _ _ _, Has.nil _ _ _⟩)
  have HLv := Lib.hid (show (List.replicate m zv).length = m from List.length_replicate)
  have HLc := Lib.hid (show (List.replicate m zc).length = m from List.length_replicate)
  have HTv := Lib.hid (show 6 * (listToks Vt.toks (List.replicate m zv)).length ≤ 70368744177664 by rw [votes_toks, List.length_replicate]; omega)
  have HTc := Lib.hid (show 6 * (listToks Ct.toks (List.replicate m zc)).length ≤ 70368744177664 by rw [long_len]; omega)
  have hbe := Below.refl w.heap.size w
  clear hq hm h12 h13 hI w0
  obtain ⟨M, hM0⟩ : ∃ M, M = 2 * m := ⟨_, rfl⟩
  obtain ⟨x0, hx0⟩ : ∃ x0 : Int, x0 = ((128 + m % 128 : Nat) : Int) := ⟨_, rfl⟩
  obtain ⟨x1, hx1⟩ : ∃ x1 : Int, x1 = ((m / 128 : Nat) : Int) := ⟨_, rfl⟩
  have hM1 : (2 : Int) * (m : Int) = (M : Int) := by omega
  have hX2 : (128 : Int) + (m : Int) % 128 = x0 := by omega
  have hX3 : (m : Int) / 128 = x1 := by omega
  have hx0b : 0 ≤ x0 := by omega
  have hx0c : x0 ≤ 255 := by omega
  have hx1b : 0 ≤ x1 := by omega
  have hx1c : x1 ≤ 255 := by omega
  have hMb : M ≤ 522 := by omega
  have hM := Lib.hid hM0
  have hX0 := Lib.hid hx0
  have hX1 := Lib.hid hx1
  have HLb := Lib.hid (show (longBytes m).length = 2 + M by rw [hM0]; simp [longBytes]; omega)
  have HU := Lib.hid (long_u8 hm2)
  clear hM0 hx0 hx1
  by_cases h256 : m ≤ 256
  · obtain ⟨bv, hbv⟩ := long_votes h256
    obtain ⟨bc, hbc⟩ := long_certs h256
    have HBv := Lib.hid hbv
    have HBc := Lib.hid hbc
    have HTk := Lib.hid (long_some hm1 h256)
    have hnx : ((2 + 2 * m : Nat) : Int) = 2 + (M : Int) := by omega
    have dd : decide ((m : Int) ≤ 256) = true := by simp; omega
    clear hbv hbc
    go_enter Try.func11, Try.ntmps11
    go_wp2_with fail
    refine (HW.out _).mono ?_
    rintro e w0 ⟨rfl, rfl⟩
    go_wp2_with fail
    refine (pack_votes_is HLv.out HTv.out _ (HV.out _)).mono ?_
    rintro e w1 h
    obtain ⟨A1, e1, rfl, _, _, _, hb1⟩ := h.yes HBv.out
    clear h
    have hc1 : Below w.heap.size w w1 := (hbe.alloc (Nat.le_refl _) _).trans (hb1.mono (by simp))
    go_wp2_with fail
    refine (pack_certs_is HLc.out HTc.out _ (HC.out _)).mono ?_
    rintro e w2 h
    obtain ⟨A2, e2, rfl, _, _, _, hb2⟩ := h.yes HBc.out
    clear h
    have hc2 : Below w.heap.size w w2 := (hc1.alloc hc1.size _).trans (hb2.mono (by have := hc1.size; simp; omega))
    obtain ⟨A3, c3, w3, hrun, hh3, hb3⟩ := long_row w2 m M x0 x1 hM.out hX0.out hX1.out hm1 hm2
    have HRun := Lib.hid hrun
    have HH3 := Lib.hid hh3
    have hc3 := hc2.trans (hb3.mono hc2.size)
    clear hrun hh3
    go_wp2_with (at_builtin; refine Lib.wpList_append_run _ rfl (.tmp 55) (.tmp 57) 24 3 rfl _ _ rfl rfl _ _ HRun.out ?_)
    refine (take_votes_yes HLb.out HTk.out (by omega) (by omega) HU.out _ (Nat.le_refl _) HH3.out).mono ?_
    rintro e w4 ⟨A4, e4, rfl, hk4, hl4, ho4, hb4⟩
    have hc4 := hc3.trans (hb4.mono hc3.size)
    rw [HLv.out]
    clear ho4 hl4
    go_wp2_with fail
    refine (wakes_any _).mono ?_
    rintro e wz ⟨rfl, hbz⟩
    go_wp2_with fail
    go_ret
    exact ⟨rfl, hc4.trans (hbz.mono hc4.size)⟩
  · have h257 : 256 < m := by omega
    have HBv := Lib.hid (long_no (f := Vt.toks) (x := zv) h257)
    have HBc := Lib.hid (long_no (f := Ct.toks) (x := zc) h257)
    have HTk := Lib.hid (long_none h257 hm2)
    have dd : decide ((m : Int) ≤ 256) = false := by simp; omega
    clear h256
    go_enter Try.func11, Try.ntmps11
    go_wp2_with fail
    refine (HW.out _).mono ?_
    rintro e w0 ⟨rfl, rfl⟩
    go_wp2_with fail
    refine (pack_votes_is HLv.out HTv.out _ (HV.out _)).mono ?_
    rintro e w1 h
    obtain ⟨rfl, hb1⟩ := h.no HBv.out
    clear h
    have hc1 : Below w.heap.size w w1 := (hbe.alloc (Nat.le_refl _) _).trans (hb1.mono (by simp))
    go_wp2_with fail
    refine (pack_certs_is HLc.out HTc.out _ (HC.out _)).mono ?_
    rintro e w2 h
    obtain ⟨rfl, hb2⟩ := h.no HBc.out
    clear h
    have hc2 : Below w.heap.size w w2 := (hc1.alloc hc1.size _).trans (hb2.mono (by have := hc1.size; simp; omega))
    obtain ⟨A3, c3, w3, hrun, hh3, hb3⟩ := long_row w2 m M x0 x1 hM.out hX0.out hX1.out hm1 hm2
    have HRun := Lib.hid hrun
    have HH3 := Lib.hid hh3
    have hc3 := hc2.trans (hb3.mono hc2.size)
    clear hrun hh3
    go_wp2_with (at_builtin; refine Lib.wpList_append_run _ rfl (.tmp 55) (.tmp 57) 24 3 rfl _ _ rfl rfl _ _ HRun.out ?_)
    refine (take_votes_no HLb.out HTk.out (by omega) (by omega) HU.out _ (Nat.le_refl _) HH3.out).mono ?_
    rintro e w4 ⟨rfl, hb4⟩
    have hc4 := hc3.trans (hb4.mono hc3.size)
    go_wp2_with fail
    refine (wakes_any _).mono ?_
    rintro e wz ⟨rfl, hbz⟩
    go_wp2_with fail
    go_ret
    exact ⟨rfl, hc4.trans (hbz.mono hc4.size)⟩
end Go.Proofs.Ytkkaedcgpbjbmaa
