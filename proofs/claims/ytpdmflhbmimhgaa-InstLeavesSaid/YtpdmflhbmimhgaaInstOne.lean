/- Package inst: Install, of batches that lie in no block of the instance. -/
import Derived.Test.YtpdmflhbmimhgaaInstD
namespace Go.Proofs.Ytpdmflhbmimhgaa
open Go.RowKit
set_option linter.unusedSimpArgs false

set_option maxRecDepth 100000 in
set_option maxHeartbeats 2000000 in
theorem iinstall_far {w : World} {ib : Nat} {x : Ix} {E : List Pe} (h : In w ib x E) (ho : x.on = false) {A : Option Addr} {n c B : Nat} {bs : List Bs} (hA : Has w B A (bs.flatMap Bs.cells)) (hn : bs.length = n) (h16 : n ≤ 16) (hok : ∀ y ∈ bs, BsOk w B y) (hfa : ∀ ad, A = some ad → ¬ IZ ib E ad.block) (hfy : ∀ y ∈ bs, ∀ ad, y.A = some ad → ¬ IZ ib E ad.block) :
    Calls Try.prog 21 #[.pointer (some ⟨ib, 0, none⟩), .slice A n c] w fun e w' => e = .returned (.bool true) ∧ IPost w ib E (x.inst bs n) w' := by
  obtain ⟨-, -, -, c3⟩ := h.hd
  have f3 := h.blk.frozen 3
  have ht : Turn (fun j => j = ib) w (w.setCell ⟨ib, 3, none⟩ (.bool true)) := (Turn.refl (fun j => j = ib) w).set_ ⟨ib, 3, none⟩ _ rfl
  have hb : Blk (w.setCell ⟨ib, 3, none⟩ (.bool true)) ib 84 (inCells (x.inst bs 0) E) := h.blk.set_ 3 _
  have hp := h.head (x' := x.inst bs 0) rfl h.num h.ah h.vw rfl ht hb
  have HP0 := Lib.hid hp
  have HLn := Lib.hid (And.intro h.ln h.len)
  have HN := Lib.hid hn
  have HOk := Lib.hid hok
  have HA := Lib.hid hA
  have HFa := Lib.hid hfa
  have HFy := Lib.hid hfy
  rw [ho] at c3
  have g1 : decide ((16 : Int) < (n : Int)) = false := decide_eq_false (by omega)
  have hmn : (n : Int) ≤ 16 := by omega
  clear h ho hA hn hok hfa hfy ht hb hp
  go_enter Try.func21, Try.ntmps21
  go_wp2_with fail
  go_loopw [21] (fun y wr => ∃ k : Nat, y = .int .i64 k ∧ k ≤ n ∧ Hid (IPost w ib E (x.inst bs k) wr)) (fun y _ => n - (intOf y).toNat)
  case atStart => exact ⟨0, rfl, Nat.zero_le _, HP0⟩
  case round =>
    obtain ⟨k, rfl, hk, HP⟩ := hrel
    by_cases hlt : k < n
    · have hkb : k < bs.length := by rw [HN.out]; exact hlt
      obtain ⟨E', hI, hZ, hT, hS⟩ := HP.out
      obtain ⟨ad, hAe, had, hc⟩ := (has_apart HA.out hT (fun ad e _ => HFa.out ad e)).thing (f := Bs.cells) (s := 1) (fun _ => rfl) (by omega) hkb
      have d0 : wr.cell? (ad.add k) = some (.slice bs[k].A bs[k].b.length bs[k].c) := by
        have := hc 0 _ rfl
        rw [Nat.mul_one] at this
        exact this
      have hok1 := HOk.out _ (List.getElem_mem hkb)
      have hfy1 := HFy.out _ (List.getElem_mem hkb)
      obtain ⟨y, hy⟩ : ∃ y, bs[k] = y := ⟨_, rfl⟩
      rw [hy] at d0 hok1 hfy1
      have hyk : bs[k]? = some y := by rw [List.getElem?_eq_getElem hkb, hy]
      have hk16 : k < 16 := by omega
      obtain ⟨e, he, hx⟩ := hI.at hk16
      have c0 := hI.cell0 he
      have HV := Lib.hid (spre_any (c := y.c) (hI.all k e he).sl (has_apart hok1.has hT (fun ad e _ => hfy1 ad e)) rfl hok1.low)
      have HX := Lib.hid (fun (w2 : World) (hp : SlPost wr (fun _ => True) e.sb e.v1 e.v2 (x.inst bs k).f (e.x.s.pre y.b) w2) => show IPost w ib E (x.inst bs (k + 1)) w2 from by
        have hr := IPost.trans hZ hT hS (hI.slot he hp)
        have hxk : x.L[k]? = some e.x := by rw [← insL_at x.L bs (Nat.le_refl k)]; exact hx
        have : (x.inst bs k).put k ⟨e.x.s.pre y.b, e.x.pr, e.x.co⟩ = x.inst bs (k + 1) := by
          unfold Ix.put Ix.inst
          have := insL_step (bs := bs) hxk hyk
          simp only [this]
          rfl
        rw [this] at hr
        exact hr)
      obtain ⟨sb, hsb⟩ : ∃ z, e.sb = z := ⟨_, rfl⟩
      rw [hsb] at HV HX c0
      obtain ⟨b1, hb1⟩ : ∃ z, (!e.x.s.ch.isSome) = z := ⟨_, rfl⟩
      rw [hb1] at HV
      obtain ⟨ny, hny⟩ : ∃ z, y.b.length = z := ⟨_, rfl⟩
      rw [hny] at HV d0
      subst hAe
      have hlt' : (k : Int) < (n : Int) := by omega
      have hlt16 : (k : Int) < 16 := by omega
      clear hI hZ hT hS hc hok1 hfy1 hy hyk he hx hsb hb1 hny had hkb
      go_wp2_with fail
      refine HV.out.mono ?_
      rintro e2 w2 ⟨rfl, hp⟩
      have HR := Lib.hid (HX.out w2 hp)
      clear hp HV HX c0 d0
      go_wp2_with fail
      go_roundw
      case rel => exact ⟨k + 1, by go_num, by omega, HR⟩
      case measure => simp [intOf]; omega
    · obtain rfl : k = n := by omega
      go_wp2_with fail
      go_ret
      exact ⟨rfl, HP.out⟩
/-- One batch is installed. -/
theorem r_install_one {w wr : World} {ib gs g2 : Nat} {x : Ix} (h : Ri w ib x wr) (ho : x.on = false) {r : Rq} (hs : Blk wr gs 28 #[.slice (some ⟨g2, 0, none⟩) 1 1]) (hb : Blk wr g2 41 (rqCells r)) :
    Calls Try.prog 21 #[.pointer (some ⟨ib, 0, none⟩), .slice (some ⟨gs, 0, none⟩) 1 1] wr fun e w' => e = .returned (.bool true) ∧ Ri w ib (x.inst [⟨[r], some ⟨g2, 0, none⟩, 1⟩] 1) w' ∧ Kp wr w' :=
  h.lift fun E hI _ => iinstall_far (bs := [⟨[r], some ⟨g2, 0, none⟩, 1⟩]) (B := wr.heap.size) hI ho (hs.has hs.lt) rfl (by omega)
    (fun y hy => by
      obtain rfl : y = _ := by simpa using hy
      exact ⟨hb.has hb.lt, by show 1 ≤ 1000000; omega⟩)
    (fun ad e => by
      injection e with e
      subst e
      exact hI.far _ _ _ hs (by decide) (by decide) (by decide))
    (fun y hy ad e => by
      obtain rfl : y = _ := by simpa using hy
      injection e with e
      subst e
      exact hI.far _ _ _ hb (by decide) (by decide) (by decide))
theorem Ri.vw {w wr : World} {ib : Nat} {x : Ix} (h : Ri w ib x wr) : 0 ≤ x.vw ∧ x.vw ≤ 12 := by
  obtain ⟨E, hI, _⟩ := h.ex
  exact hI.vw
end Go.Proofs.Ytpdmflhbmimhgaa
