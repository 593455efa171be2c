/- The contract of keep.HeavyCerts: whether there are more than so many certificates, or one of them has more than so many requests or votes. -/
import Derived.Test.YtkkaedcgpbjbmaaLists
namespace Go.Proofs.Ytkkaedcgpbjbmaa
open Go.RowKit

def lightC (c : Ct) : Bool := decide (c.bt.length ≤ 12 ∧ c.vs.length ≤ 30)
def heavyC (l : List Ct) : Bool := !(decide (l.length ≤ 20) && l.all lightC)
theorem heavyC_len {l : List Ct} (h : 20 < l.length) : heavyC l = true := by
  simp [heavyC]; omega
theorem heavyC_one {l : List Ct} {k : Nat} (hk : k < l.length) (h : lightC l[k] = false) : heavyC l = true := by
  unfold heavyC
  rw [Bool.not_eq_true', Bool.and_eq_false_iff]
  refine Or.inr ?_
  rw [List.all_eq_false]
  exact ⟨l[k], List.getElem_mem hk, by simp [h]⟩
theorem heavyC_no {l : List Ct} (h1 : l.length ≤ 20) (h2 : (l.take l.length).all lightC = true) : heavyC l = false := by
  rw [List.take_length] at h2
  simp [heavyC, h1, h2]
theorem all_more {l : List Ct} {k : Nat} (hk : k < l.length) (h : (l.take k).all lightC = true) (h2 : lightC l[k] = true) : (l.take (k + 1)).all lightC = true := by
  rw [List.take_succ_eq_append_getElem hk, List.all_append]
  simp [h, h2]
theorem light_of {l : List Ct} (h : heavyC l = false) : l.length ≤ 20 ∧ ∀ c ∈ l, c.bt.length ≤ 12 ∧ c.vs.length ≤ 30 := by
  simp only [heavyC, Bool.not_eq_false', Bool.and_eq_true, decide_eq_true_eq, List.all_eq_true] at h
  exact ⟨h.1, fun c hc => by have := h.2 c hc; simpa [lightC] using this⟩

set_option maxHeartbeats 1000000 in
theorem heavy_certs (A : Option Addr) (c : Nat) (l : List Ct) (B : Nat) (w : World) (hh : HasCerts w B A l) :
    Calls Try.prog 17 #[.slice A l.length c] w fun e w' => e = .returned (.bool (heavyC l)) ∧ w = w' := by
  have HH := Lib.hid hh
  clear hh
  by_cases hlen : 20 < l.length
  · have HE := Lib.hid (heavyC_len hlen)
    go_enter Try.func17, Try.ntmps17
    go_wp2
    go_ret
    exact ⟨by rw [HE.out]; rfl, rfl⟩
  · have hle : l.length ≤ 20 := by omega
    go_enter Try.func17, Try.ntmps17
    go_wp2
    go_loop [3] (fun x => ∃ k : Nat, x = .int .i64 k ∧ k ≤ l.length ∧ Hid ((l.take k).all lightC = true)) (fun x => l.length - (intOf x).toNat)
    case atStart => exact ⟨0, rfl, Nat.zero_le _, rfl⟩
    case round =>
      obtain ⟨k, rfl, hk, HT⟩ := hrel
      by_cases hlt : k < l.length
      · obtain ⟨ad, x, rfl, _, hx, ix, c0, c1, c2, c3, c4⟩ := HH.out.at hlt
        have HX := Lib.hid hx
        clear hx
        by_cases h1 : 12 < x.c.bt.length
        · have HE := Lib.hid (heavyC_one hlt (by rw [← HX.out]; simp [lightC]; omega))
          go_wp2
          go_ret
          exact ⟨by rw [HE.out]; rfl, rfl⟩
        · have h1' : x.c.bt.length ≤ 12 := by omega
          by_cases h2 : 30 < x.c.vs.length
          · have HE := Lib.hid (heavyC_one hlt (by rw [← HX.out]; simp [lightC]; omega))
            go_wp2
            go_ret
            exact ⟨by rw [HE.out]; rfl, rfl⟩
          · have h2' : x.c.vs.length ≤ 30 := by omega
            have HE := Lib.hid (all_more hlt HT.out (by rw [← HX.out]; simp [lightC]; omega))
            go_wp2
            go_round
            case rel => exact ⟨k + 1, by go_num, by omega, HE.out⟩
            case measure => simp [intOf]; omega
      · have hke : k = l.length := by omega
        subst hke
        have HE := Lib.hid (heavyC_no hle HT.out)
        go_wp2
        go_ret
        exact ⟨by rw [HE.out]; rfl, rfl⟩
end Go.Proofs.Ytkkaedcgpbjbmaa
