/- The contracts of the document's Sealed and Right. -/
import Derived.Test.YtdopgdaobpcbjaaRefRows
import Derived.Test.YtdopgdaobpcbjaaRefSeal
namespace Go.Proofs.Ytdopgdaobpcbjaa
open Go.RowKit

/-- The bytes that a client seals, where there are any. -/
def bodyS (r : Rq) : Option (List Int) := bytesOf r.bare.toks
def sealedS (r : Rq) (n : Int) (L : List Deed) : Bool := validS r n && (match bodyS r with
  | some bs => checkS L (100 + r.cl, strOfNums bs) r.sg
  | none => false)
theorem body_small {r : Rq} {bs : List Int} (h : bodyS r = some bs) : 0 ≤ r.cl ∧ r.cl < 1099511627776 := by
  unfold bodyS bytesOf at h
  cases hc : codes r.bare.toks with
  | none => rw [hc] at h; cases h
  | some ns =>
    obtain ⟨n, rs, h1, _, _⟩ := codes_cons.1 (show codes (.num r.cl :: _) = some ns from hc)
    obtain ⟨h2, h3⟩ := code_num.1 h1
    omega
theorem body_len {r : Rq} {bs : List Int} (h : bodyS r = some bs) : bs.length ≤ 36 := bytesOf_len h
theorem sealedS_no {r : Rq} {n : Int} {L : List Deed} (h : validS r n = false) : sealedS r n L = false := by unfold sealedS; rw [h]; rfl
theorem sealedS_none {r : Rq} {n : Int} {L : List Deed} (h : bodyS r = none) : sealedS r n L = false := by unfold sealedS; rw [h]; cases validS r n <;> rfl
theorem sealedS_some {r : Rq} {n : Int} {L : List Deed} {bs : List Int} (h : validS r n = true) (hb : bodyS r = some bs) : sealedS r n L = checkS L (100 + r.cl, strOfNums bs) r.sg := by unfold sealedS; rw [h, hb]; rfl

set_option maxHeartbeats 1000000 in
theorem rsealed_any {R : Nat → Prop} {w : World} {rb : Nat} {L : List Deed} (h : Rf R w rb L) (hnd : L.Nodup) (r : Rq) (hr : fit r.sg) (n : Int) :
    Calls Try.prog 24 #[.agg #[.int .i64 r.cl, .int .i64 r.tm, .int .i64 r.kd, .int .i64 r.ky, .int .i64 r.vl, .int .i64 r.sg], .int .i64 n, .pointer (some ⟨rb, 0, none⟩)] w fun e w' => e = .returned (.bool (sealedS r n L)) ∧ Below w.heap.size w w' := by
  have HBl := Lib.hid (fun (cs : Array Value) => show Below w.heap.size w (w.alloc (.cells cs 34)) from (Below.refl _ _).alloc (Nat.le_refl _) _)
  have HR := Lib.hid h
  have HF := Lib.hid hr
  have HN := Lib.hid hnd
  have HV := Lib.hid (fun w => rvalid_any r n w)
  clear h hr hnd
  cases hv : validS r n
  · have HS := Lib.hid (sealedS_no (L := L) hv)
    rw [hv] at HV
    rw [HS.out]
    clear hv
    go_enter Try.func24, Try.ntmps24
    go_wp2_with fail
    refine (HV.out _).mono ?_
    rintro e w2 ⟨rfl, hb2⟩
    have HB2 := Lib.hid ((HBl.out _).trans (hb2.mono (HBl.out _).size))
    clear hb2
    go_wp2_with fail
    go_ret
    exact ⟨rfl, HB2.out⟩
  · rw [hv] at HV
    have HVv := Lib.hid hv
    clear hv
    go_enter Try.func24, Try.ntmps24
    go_wp2_with fail
    have HX := Lib.hid (show Blk (w.alloc (.cells #[.int .i64 r.cl, .int .i64 r.tm, .int .i64 r.kd, .int .i64 r.ky, .int .i64 r.vl, .int .i64 r.sg] 34)) w.heap.size 34 #[.int .i64 r.cl, .int .i64 r.tm, .int .i64 r.kd, .int .i64 r.ky, .int .i64 r.vl, .int .i64 r.sg] from Blk.new _ _ _)
    refine (HV.out _).mono ?_
    rintro e w2 ⟨rfl, hb2⟩
    have HB2 := Lib.hid ((HBl.out _).trans (hb2.mono (HBl.out _).size))
    have hx2 := HX.out.below hb2 HX.out.lt
    have HX2 := Lib.hid hx2
    have d0 := hx2.cell 0
    have d1 := hx2.cell 1
    have d2 := hx2.cell 2
    have d3 := hx2.cell 3
    have d4 := hx2.cell 4
    have d5 := hx2.cell 5
    simp only [List.getElem?_toArray, List.getElem?_cons_zero, List.getElem?_cons_succ] at d0 d1 d2 d3 d4 d5
    clear hb2 hx2 HX
    go_wp2_with fail
    refine (rbody_any r _).mono ?_
    rintro e w3 hp
    have HB3 := Lib.hid (HB2.out.trans (hp.1.mono HB2.out.size))
    have hx3 := HX2.out.below hp.1 HX2.out.lt
    have e0 := hx3.cell 0
    have e5 := hx3.cell 5
    simp only [List.getElem?_toArray, List.getElem?_cons_zero, List.getElem?_cons_succ] at e0 e5
    clear hx3 d0 d1 d2 d3 d4 d5
    rcases hp with ⟨_, ⟨bs, A, c, hbs, rfl, ho⟩ | ⟨hno, rfl⟩⟩
    · obtain ⟨hs1, hs2⟩ := body_small hbs
      have HS := Lib.hid (sealedS_some (L := L) HVv.out hbs)
      have HP := Lib.hid (rcheck_any (HR.out.below HB3.out) HN.out (p := 100 + r.cl) (c := c) HF.out (Has.own ho) rfl)
      clear hbs ho
      go_wp2_with fail
      refine HP.out.mono ?_
      rintro e w4 ⟨rfl, m, rfl⟩
      go_wp2_with fail
      go_ret
      exact ⟨by rw [HS.out]; rfl, HB3.out.trans ⟨rfl, rfl, rfl, Nat.le_refl _, fun _ _ => rfl⟩⟩
    · have HS := Lib.hid (sealedS_none (L := L) (n := n) hno)
      clear hno
      go_wp2_with fail
      go_ret
      exact ⟨by rw [HS.out]; rfl, HB3.out⟩

def rightS (l : List Rq) (most n : Int) (L : List Deed) : Bool := decide ((l.length : Int) ≤ most) && risesR l && l.all (fun r => sealedS r n L)
theorem right_next {l : List Rq} {n : Int} {L : List Deed} {k : Nat} {r : Rq} (h : l[k]? = some r) : (l.take (k + 1)).all (fun r => sealedS r n L) = ((l.take k).all (fun r => sealedS r n L) && sealedS r n L) := by
  rw [List.take_add_one, h, List.all_append]
  simp
theorem right_far {l : List Rq} {n : Int} {L : List Deed} {k : Nat} {r : Rq} (h : l[k]? = some r) (hs : sealedS r n L = false) : l.all (fun r => sealedS r n L) = false := by
  rw [List.all_eq_false]
  exact ⟨r, List.mem_of_getElem? h, by rw [hs]; simp⟩
structure RtSt (w : World) (l : List Rq) (n : Int) (L : List Deed) (k : Nat) (wr : World) : Prop where
  low : Below w.heap.size w wr
  all : (l.take k).all (fun r => sealedS r n L) = true
set_option maxHeartbeats 1000000 in
theorem rright_any {R : Nat → Prop} {w : World} {rb : Nat} {L : List Deed} (h : Rf R w rb L) (hnd : L.Nodup) (A : Option Addr) (c : Nat) (zs : List Rq) (B : Nat) (hl : zs.length ≤ 9223372036854775806) (h1 : Has w B A (reqCells zs)) (hf : ∀ r ∈ zs, fit r.sg) (most n : Int) :
    Calls Try.prog 25 #[.slice A zs.length c, .int .i64 most, .int .i64 n, .pointer (some ⟨rb, 0, none⟩)] w fun e w' => e = .returned (.bool (rightS zs most n L)) ∧ Below w.heap.size w w' := by
  have H1 := Lib.hid h1.tight
  have HR := Lib.hid h
  have HF := Lib.hid hf
  have HN := Lib.hid hnd
  have HC := Lib.hid (rrises_any A c zs B w hl h1)
  clear h1 h hf hnd
  by_cases hm : (zs.length : Int) ≤ most
  · have t0 : decide (most < (zs.length : Int)) = false := decide_eq_false (by omega)
    cases hr : risesR zs
    · have HS := Lib.hid (show rightS zs most n L = false by unfold rightS; rw [hr]; simp)
      rw [hr] at HC
      rw [HS.out]
      clear hr
      go_enter Try.func25, Try.ntmps25
      go_wp2_with fail
      refine HC.out.mono ?_
      rintro e w2 ⟨rfl, hb2⟩
      have HB2 := Lib.hid hb2
      clear hb2
      go_wp2_with fail
      go_ret
      exact ⟨rfl, HB2.out⟩
    · have HS := Lib.hid (show rightS zs most n L = zs.all (fun r => sealedS r n L) by unfold rightS; rw [hr, decide_eq_true hm]; simp)
      rw [hr] at HC
      rw [HS.out]
      clear hr hm
      go_enter Try.func25, Try.ntmps25
      go_wp2_with fail
      refine HC.out.mono ?_
      rintro e w2 ⟨rfl, hb2⟩
      have HB2 := Lib.hid hb2
      clear hb2
      go_wp2_with fail
      go_loopw [9] (fun x wr => ∃ k : Nat, x = .int .i64 k ∧ k ≤ zs.length ∧ Hid (RtSt w zs n L k wr)) (fun x _ => zs.length - (intOf x).toNat)
      case atStart => exact ⟨0, rfl, Nat.zero_le _, HB2.out, by simp⟩
      case round =>
        obtain ⟨k, rfl, hk, HT⟩ := hrel
        by_cases hlt : k < zs.length
        · obtain ⟨a1, rfl, _, c0, c1, c2, c3, c4, c5⟩ := (H1.out.below HT.out.low (Nat.le_refl _)).req hlt
          have HX := Lib.hid (show zs[k]? = some zs[k] from List.getElem?_eq_getElem hlt)
          have hfx := HF.out _ (List.getElem_mem hlt)
          obtain ⟨x, hx⟩ : ∃ x, zs[k] = x := ⟨_, rfl⟩
          rw [hx] at c0 c1 c2 c3 c4 c5 HX hfx
          have HP := Lib.hid (rsealed_any (HR.out.below HT.out.low) HN.out x hfx n)
          clear hx hfx
          cases hs : sealedS x n L
          · have HE := Lib.hid (right_far HX.out hs)
            rw [hs] at HP
            clear hs
            go_wp2_with fail
            refine HP.out.mono ?_
            rintro e w3 ⟨rfl, hb3⟩
            have HB3 := Lib.hid (HT.out.low.trans (hb3.mono HT.out.low.size))
            clear hb3
            go_wp2_with fail
            go_ret
            exact ⟨by rw [HE.out]; rfl, HB3.out⟩
          · have HE := Lib.hid (show (zs.take (k + 1)).all (fun r => sealedS r n L) = true by rw [right_next HX.out, HT.out.all, hs]; rfl)
            rw [hs] at HP
            clear hs
            go_wp2_with fail
            refine HP.out.mono ?_
            rintro e w3 ⟨rfl, hb3⟩
            have HB3 := Lib.hid (HT.out.low.trans (hb3.mono HT.out.low.size))
            clear hb3
            go_wp2_with fail
            go_roundw
            case rel => exact ⟨k + 1, by go_num, by omega, HB3.out, HE.out⟩
            case measure => simp [intOf]; omega
        · have HE := Lib.hid (show zs.all (fun r => sealedS r n L) = true by have := HT.out.all; rwa [List.take_of_length_le (by omega)] at this)
          go_wp2_with fail
          go_ret
          exact ⟨by rw [HE.out]; rfl, HT.out.low⟩
  · have HS := Lib.hid (show rightS zs most n L = false by unfold rightS; rw [decide_eq_false hm]; rfl)
    have t0 : decide (most < (zs.length : Int)) = true := decide_eq_true (by omega)
    rw [HS.out]
    clear hm
    go_enter Try.func25, Try.ntmps25
    go_wp2_with fail
    go_ret
    exact ⟨rfl, Below.refl _ _⟩
end Go.Proofs.Ytdopgdaobpcbjaa
