/- The walk of PackCuts: it returns true for any certificates and any place. -/
import Derived.Test.YtkkaedcgpbjbmaaTaken
import Derived.Test.YtkkaedcgpbjbmaaListsWalk
import Derived.Test.YtkkaedcgpbjbmaaBounds
import Derived.Test.YtkkaedcgpbjbmaaWithin
namespace Go.Proofs.Ytkkaedcgpbjbmaa
open Go.RowKit

theorem bytes_pos {ts : List Tok} {bs : List Int} (h : bytesOf ts = some bs) (hp : 0 < ts.length) : 0 < bs.length := by
  obtain ⟨ns, h1, rfl⟩ := bytesOf_codes h
  have h2 := codes_len h1
  have h3 := flat_ge ns
  omega

set_option maxHeartbeats 1000000 in
set_option maxRecDepth 100000 in
theorem packCuts_walk (A : Option Addr) (c : Nat) (l : List Ct) (i : Int) (w : World) (w0 : IsCerts w A l c) (w1 : (Lit.int .i64 i).wf = true) :
    Calls Try.prog 5 #[.slice A l.length c, .int .i64 i] w fun e w' => e = .returned (.bool true) ∧ Below w.heap.size w w' := by
  have HI := Lib.hid (wf_i64 w1)
  have HC := Lib.hid w0.has
  have HV := Lib.hid (heavy_certs A c l w.heap.size w w0.has)
  clear w0 w1
  cases hv : heavyC l with
  | true =>
    rw [hv] at HV
    clear hv
    go_enter Try.func5, Try.ntmps5
    go_wp2_with fail
    refine (HV.out).mono ?_
    rintro e w1 ⟨rfl, rfl⟩
    go_wp2_with fail
    refine (wakes_any _).mono ?_
    rintro e wz ⟨rfl, hbz⟩
    go_wp2_with fail
    go_ret
    exact ⟨rfl, hbz⟩
  | false =>
    rw [hv] at HV
    have hlt := certs_toks hv
    clear hv
    go_enter Try.func5, Try.ntmps5
    go_wp2_with fail
    refine (HV.out).mono ?_
    rintro e w1 ⟨rfl, rfl⟩
    go_wp2_with fail
    refine (pack_certs l A c _ HC.out (by omega)).mono ?_
    rintro e w1 ⟨hb1, ⟨bs, Ab, cb, hbo, rfl, hob⟩ | ⟨hbo, rfl⟩⟩
    · have hbl := bytesOf_len hbo
      have hbp := bytes_pos hbo (by simp [listToks])
      have HU := Lib.hid (bytesOf_u8 hbo)
      obtain ⟨hc1, hc2⟩ := own_slice_caps hob
      unfold maxLen at hc2
      obtain ⟨k, hk⟩ : ∃ k : Nat, i % (bs.length : Int) = k := ⟨(i % (bs.length : Int)).toNat, by have := Int.emod_nonneg i (show (bs.length : Int) ≠ 0 by omega); omega⟩
      have hkl : k < bs.length := by have := Int.emod_lt_of_pos i (show (0 : Int) < bs.length by omega); omega
      have HCut := Lib.hid (cut_none (f := tkCerts) tells_certs hbo hkl)
      have HW := Lib.hid (fun w => within_any i bs.length (by omega) (by omega) HI.out.1 HI.out.2 w)
      rw [hk] at HW
      have HL := Lib.hid (show (bs.take k).length = k by rw [List.length_take]; omega)
      have HO := Lib.hid ((Has.own hob).take k)
      clear hbo hob hk
      go_wp2_with fail
      refine (HW.out _).mono ?_
      rintro e w2 ⟨rfl, rfl⟩
      go_wp2_with fail
      refine (take_certs_no HL.out HCut.out (by omega) (by omega) (fun z hz => HU.out z (List.mem_of_mem_take hz)) _ (Nat.le_refl _) HO.out).mono ?_
      rintro e w2 ⟨rfl, hb2⟩
      have hb3 := hb1.trans (hb2.mono hb1.size)
      go_wp2_with fail
      refine (wakes_any _).mono ?_
      rintro e wz ⟨rfl, hbz⟩
      go_wp2_with fail
      go_ret
      exact ⟨rfl, hb3.trans (hbz.mono hb3.size)⟩
    · clear hbo
      go_wp2_with fail
      refine (wakes_any _).mono ?_
      rintro e wz ⟨rfl, hbz⟩
      go_wp2_with fail
      go_ret
      exact ⟨rfl, hb1.trans (hbz.mono hb1.size)⟩
end Go.Proofs.Ytkkaedcgpbjbmaa
