/- The contract of msgs.takeNumbers: the numbers ahead of a message's lists. -/
import Derived.Test.YtbebfgfpdcdcoaaGreatOS0
import Derived.Test.YtbebfgfpdcdcoaaGreatOS1
namespace Go.Proofs.YtbebfgfpdcdcoaaGreat
open Go.RowKit

def tkHead (zs : List Int) : Option (Mg × Int) :=
  (tkNum zs 0).bind fun a => (tkNum zs a.2).bind fun b => (tkNum zs b.2).bind fun c => (tkNum zs c.2).bind fun d => (tkNum zs d.2).bind fun e => (tkSgn zs e.2).bind fun f =>
    some (⟨a.1, b.1, c.1, d.1, e.1, f.1, [], [], [], []⟩, f.2)
theorem tkMsg_head (zs : List Int) : tkMsg zs 0 = (tkHead zs).bind fun f => (tkBatch zs f.2).bind fun g => (tkVotes zs g.2).bind fun h => (tkCerts zs h.2).bind fun k => (tkParts zs k.2).bind fun l =>
    some ({ f.1 with bt := g.1, vs := h.1, cs := k.1, ps := l.1 }, l.2) := by
  simp [tkMsg, tkHead, Option.bind_assoc]
/-- What takeNumbers answers. -/
def HeadTaken (zs : List Int) (w : World) (e : Ending) (w' : World) : Prop :=
  Below w.heap.size w w' ∧ ((∃ (m : Mg) (k : Nat), tkHead zs = some (m, (k : Int)) ∧ k ≤ zs.length ∧ m.bt = [] ∧ m.vs = [] ∧ m.cs = [] ∧ m.ps = [] ∧ e = .returned (.tuple #[.agg #[.int .i64 m.kd, .int .i64 m.fr, .int .i64 m.vw, .int .i64 m.ins, .int .i64 m.sq, .int .i64 m.rs, .slice none 0 0, .slice none 0 0, .slice none 0 0, .slice none 0 0], .int .i64 k, .bool true])) ∨
    (tkHead zs = none ∧ e = .returned (.tuple #[.agg #[.int .i64 0, .int .i64 0, .int .i64 0, .int .i64 0, .int .i64 0, .int .i64 0, .slice none 0 0, .slice none 0 0, .slice none 0 0, .slice none 0 0], .int .i64 0, .bool false])))
set_option maxHeartbeats 4000000 in
set_option maxRecDepth 100000 in
theorem take_head (A : Option Addr) (cap : Nat) (zs : List Int) (B : Nat) (hl : zs.length ≤ 9223372036854775806) (hz : ∀ z ∈ zs, 0 ≤ z ∧ z ≤ 255) (w : World) (hB : B ≤ w.heap.size) (hh : Has w B A (u8s zs)) :
    Calls Tryz.prog 99 #[.slice A zs.length cap] w (HeadTaken zs w) := by
  have HA := Lib.hid (fun cs => hh.below ((Below.refl B w).alloc hB (.cells cs 38)) (Nat.le_refl _))
  have HN := Lib.hid (fun (i : Int) (hi : i ≤ 9223372036854775807) w h => take_num A cap zs B i hl hi hz w h)
  have HS := Lib.hid (fun (i : Int) (hi : i ≤ 9223372036854775807) w h => take_sgn A cap zs B i hl hi hz w h)
  clear hz hh
  go_enter Tryz.func99, Tryz.ntmps99
  go_wp2
  refine wp_scope_hops 8 (fun F HF => ?_)
  go_wp2_with fail
  refine (HN.out 0 (by omega) _ (HA.out _)).mono ?_
  rintro e w1 ⟨rfl, ⟨m0, k0, h1, hk0, rfl⟩ | ⟨h1, rfl⟩⟩
  case inr =>
    have HR := Lib.hid (show tkHead zs = none by simp [tkHead, h1])
    clear h1
    go_wp2
    go_step3
    go_wp2
    refine ⟨_, by rw [HF.out]; rfl, ?_⟩
    go_wp2
    exact bodyPost_ret (v := .tuple #[.agg #[.int .i64 0, .int .i64 0, .int .i64 0, .int .i64 0, .int .i64 0, .int .i64 0, .slice none 0 0, .slice none 0 0, .slice none 0 0, .slice none 0 0], .int .i64 0, .bool false]) (by simp [results, Tryz.results99, go_sem]) rfl ⟨(Below.refl _ w).alloc (Nat.le_refl _) _, Or.inr ⟨HR.out, rfl⟩⟩
  have H0 := Lib.hid h1
  clear h1
  go_wp2
  go_step3
  go_wp2
  refine ⟨_, by rw [HF.out]; rfl, ?_⟩
  go_wp2_with fail
  refine (HN.out k0 (by omega) _ (HA.out _)).mono ?_
  rintro e w1 ⟨rfl, ⟨m1, k1, h1, hk1, rfl⟩ | ⟨h1, rfl⟩⟩
  case inr =>
    have HR := Lib.hid (show tkHead zs = none by simp [tkHead, H0.out, h1])
    clear h1
    go_wp2
    go_step3
    go_wp2
    refine ⟨_, by rw [HF.out]; rfl, ?_⟩
    go_wp2
    exact bodyPost_ret (v := .tuple #[.agg #[.int .i64 0, .int .i64 0, .int .i64 0, .int .i64 0, .int .i64 0, .int .i64 0, .slice none 0 0, .slice none 0 0, .slice none 0 0, .slice none 0 0], .int .i64 0, .bool false]) (by simp [results, Tryz.results99, go_sem]) rfl ⟨(Below.refl _ w).alloc (Nat.le_refl _) _, Or.inr ⟨HR.out, rfl⟩⟩
  have H1 := Lib.hid h1
  clear h1
  go_wp2
  go_step3
  go_wp2
  refine ⟨_, by rw [HF.out]; rfl, ?_⟩
  go_wp2_with fail
  refine (HN.out k1 (by omega) _ (HA.out _)).mono ?_
  rintro e w1 ⟨rfl, ⟨m2, k2, h1, hk2, rfl⟩ | ⟨h1, rfl⟩⟩
  case inr =>
    have HR := Lib.hid (show tkHead zs = none by simp [tkHead, H0.out, H1.out, h1])
    clear h1
    go_wp2
    go_step3
    go_wp2
    refine ⟨_, by rw [HF.out]; rfl, ?_⟩
    go_wp2
    exact bodyPost_ret (v := .tuple #[.agg #[.int .i64 0, .int .i64 0, .int .i64 0, .int .i64 0, .int .i64 0, .int .i64 0, .slice none 0 0, .slice none 0 0, .slice none 0 0, .slice none 0 0], .int .i64 0, .bool false]) (by simp [results, Tryz.results99, go_sem]) rfl ⟨(Below.refl _ w).alloc (Nat.le_refl _) _, Or.inr ⟨HR.out, rfl⟩⟩
  have H2 := Lib.hid h1
  clear h1
  go_wp2
  go_step3
  go_wp2
  refine ⟨_, by rw [HF.out]; rfl, ?_⟩
  go_wp2_with fail
  refine (HN.out k2 (by omega) _ (HA.out _)).mono ?_
  rintro e w1 ⟨rfl, ⟨m3, k3, h1, hk3, rfl⟩ | ⟨h1, rfl⟩⟩
  case inr =>
    have HR := Lib.hid (show tkHead zs = none by simp [tkHead, H0.out, H1.out, H2.out, h1])
    clear h1
    go_wp2
    go_step3
    go_wp2
    refine ⟨_, by rw [HF.out]; rfl, ?_⟩
    go_wp2
    exact bodyPost_ret (v := .tuple #[.agg #[.int .i64 0, .int .i64 0, .int .i64 0, .int .i64 0, .int .i64 0, .int .i64 0, .slice none 0 0, .slice none 0 0, .slice none 0 0, .slice none 0 0], .int .i64 0, .bool false]) (by simp [results, Tryz.results99, go_sem]) rfl ⟨(Below.refl _ w).alloc (Nat.le_refl _) _, Or.inr ⟨HR.out, rfl⟩⟩
  have H3 := Lib.hid h1
  clear h1
  go_wp2
  go_step3
  go_wp2
  refine ⟨_, by rw [HF.out]; rfl, ?_⟩
  go_wp2_with fail
  refine (HN.out k3 (by omega) _ (HA.out _)).mono ?_
  rintro e w1 ⟨rfl, ⟨m4, k4, h1, hk4, rfl⟩ | ⟨h1, rfl⟩⟩
  case inr =>
    have HR := Lib.hid (show tkHead zs = none by simp [tkHead, H0.out, H1.out, H2.out, H3.out, h1])
    clear h1
    go_wp2
    go_step3
    go_wp2
    refine ⟨_, by rw [HF.out]; rfl, ?_⟩
    go_wp2
    exact bodyPost_ret (v := .tuple #[.agg #[.int .i64 0, .int .i64 0, .int .i64 0, .int .i64 0, .int .i64 0, .int .i64 0, .slice none 0 0, .slice none 0 0, .slice none 0 0, .slice none 0 0], .int .i64 0, .bool false]) (by simp [results, Tryz.results99, go_sem]) rfl ⟨(Below.refl _ w).alloc (Nat.le_refl _) _, Or.inr ⟨HR.out, rfl⟩⟩
  have H4 := Lib.hid h1
  clear h1
  go_wp2
  go_step3
  go_wp2
  refine ⟨_, by rw [HF.out]; rfl, ?_⟩
  go_wp2_with fail
  refine (HS.out k4 (by omega) _ (HA.out _)).mono ?_
  rintro e w1 ⟨rfl, ⟨m5, k5, h1, hk5, rfl⟩ | ⟨h1, rfl⟩⟩
  case inr =>
    have HR := Lib.hid (show tkHead zs = none by simp [tkHead, H0.out, H1.out, H2.out, H3.out, H4.out, h1])
    clear h1
    go_wp2
    go_step3
    go_wp2
    exact bodyPost_ret (v := .tuple #[.agg #[.int .i64 0, .int .i64 0, .int .i64 0, .int .i64 0, .int .i64 0, .int .i64 0, .slice none 0 0, .slice none 0 0, .slice none 0 0, .slice none 0 0], .int .i64 0, .bool false]) (by simp [results, Tryz.results99, go_sem]) rfl ⟨(Below.refl _ w).alloc (Nat.le_refl _) _, Or.inr ⟨HR.out, rfl⟩⟩
  have H5 := Lib.hid h1
  clear h1
  have HR := Lib.hid (show tkHead zs = some (⟨m0, m1, m2, m3, m4, m5, [], [], [], []⟩, (k5 : Int)) by simp [tkHead, H0.out, H1.out, H2.out, H3.out, H4.out, H5.out])
  go_wp2
  exact bodyPost_ret (v := .tuple #[.agg #[.int .i64 m0, .int .i64 m1, .int .i64 m2, .int .i64 m3, .int .i64 m4, .int .i64 m5, .slice none 0 0, .slice none 0 0, .slice none 0 0, .slice none 0 0], .int .i64 k5, .bool true]) (by simp [results, Tryz.results99, go_sem]) rfl ⟨(Below.refl _ w).alloc (Nat.le_refl _) _, Or.inl ⟨_, k5, HR.out, hk5, rfl, rfl, rfl, rfl, rfl⟩⟩
end Go.Proofs.YtbebfgfpdcdcoaaGreat
