/- Arguments that came in: a message, a certificate, a part, by value, opened to cells. -/
import Derived.Test.YtbebfgfpdcdcoaaGreatORefMsg
import Derived.Test.YtbebfgfpdcdcoaaGreatOS0
import Derived.Test.YtbebfgfpdcdcoaaGreatOTakeParts
import Derived.Test.YtbebfgfpdcdcoaaGreatORefOrder
namespace Go.Proofs.YtbebfgfpdcdcoaaGreat
open Go.RowKit Go.ChangeShapes Go.WideShapes Go.Deep

def Ms.vals (x : Ms) : Array Value := #[.int .i64 x.m.kd, .int .i64 x.m.fr, .int .i64 x.m.vw, .int .i64 x.m.ins, .int .i64 x.m.sq, .int .i64 x.m.rs, .slice x.A1 x.m.bt.length x.c1, .slice x.A2 x.m.vs.length x.c2, .slice x.A3 x.m.cs.length x.c3, .slice x.A4 x.m.ps.length x.c4]
/-- A message whose lists came in. -/
structure Ms.Came (w : World) (x : Ms) : Prop where
  kd : fit x.m.kd
  fr : fit x.m.fr
  vw : fit x.m.vw
  ins : fit x.m.ins
  sq : fit x.m.sq
  rs : fit x.m.rs
  bt : IsReqs w x.A1 x.m.bt x.c1
  vs : IsVotes w x.A2 x.m.vs x.c2
  cs : IsCerts w x.A3 x.m.cs x.c3
  ps : IsParts w x.A4 x.m.ps x.c4
theorem Ms.Came.in_ {w : World} {x : Ms} (h : x.Came w) : x.In w w.heap.size := ⟨h.bt.has, h.vs.has, h.cs.has, h.ps.has⟩
theorem Cs.Came.in_ {w : World} {x : Cs} (h : x.Came w) : x.In w w.heap.size := ⟨h.bt.has, h.vs.has⟩
theorem Ps.Came.in_ {w : World} {x : Ps} (h : x.Came w) : x.In w w.heap.size := ⟨h.vs.has, h.cs.has⟩
section
variable {H : Type} {enc : TypeId × Value → H} {w : World} {base : Nat} {held : Bool}
set_option maxHeartbeats 1000000 in
theorem trod_msg {n : Nat} {cs : List Value} {z : DataW H × List MemPlace} (hl : cs.length = 10) (h : DataW.trod enc Tryz.prog w base (fun _ => true) held n 38 cs = some z) : ∃ x : Ms, cs = x.vals.toList ∧ x.Came w := by
  match cs, hl with
  | [c0, c1, c2, c3, c4, c5, c6, c7, c8, c9], _ =>
    have k3 : Tryz.prog.cellsOf 3 = 1 := by kernel_rfl
    have kr : Tryz.prog.cellsOf 22 = 1 := by kernel_rfl
    have kv : Tryz.prog.cellsOf 23 = 1 := by kernel_rfl
    have kc : Tryz.prog.cellsOf 35 = 1 := by kernel_rfl
    have kp : Tryz.prog.cellsOf 36 = 1 := by kernel_rfl
    obtain ⟨xs, m, _, _, _, hxl, hf⟩ := DataW.trod_struct Tryz.underlying38 h
    have hxl : xs.length = 10 := hxl
    obtain ⟨y0, e0⟩ := at_field hf 0 3 0 1 rfl k3 (by omega)
    obtain ⟨y1, e1⟩ := at_field hf 1 3 1 1 rfl k3 (by omega)
    obtain ⟨y2, e2⟩ := at_field hf 2 3 2 1 rfl k3 (by omega)
    obtain ⟨y3, e3⟩ := at_field hf 3 3 3 1 rfl k3 (by omega)
    obtain ⟨y4, e4⟩ := at_field hf 4 3 4 1 rfl k3 (by omega)
    obtain ⟨y5, e5⟩ := at_field hf 5 3 5 1 rfl k3 (by omega)
    obtain ⟨y6, e6⟩ := at_field hf 6 22 6 1 rfl kr (by omega)
    obtain ⟨y7, e7⟩ := at_field hf 7 23 7 1 rfl kv (by omega)
    obtain ⟨y8, e8⟩ := at_field hf 8 35 8 1 rfl kc (by omega)
    obtain ⟨y9, e9⟩ := at_field hf 9 36 9 1 rfl kp (by omega)
    simp only [List.drop_zero, List.drop_succ_cons, List.take_succ_cons, List.take_zero] at e0 e1 e2 e3 e4 e5 e6 e7 e8 e9
    obtain ⟨a0, h0, f0⟩ := trod_i64 e0
    obtain ⟨a1, h1, f1⟩ := trod_i64 e1
    obtain ⟨a2, h2, f2⟩ := trod_i64 e2
    obtain ⟨a3, h3, f3⟩ := trod_i64 e3
    obtain ⟨a4, h4, f4⟩ := trod_i64 e4
    obtain ⟨a5, h5, f5⟩ := trod_i64 e5
    obtain ⟨A6, l6, d6, h6⟩ := trod_is_slice Tryz.underlying22 e6
    obtain ⟨A7, l7, d7, h7⟩ := trod_is_slice Tryz.underlying23 e7
    obtain ⟨A8, l8, d8, h8⟩ := trod_is_slice Tryz.underlying35 e8
    obtain ⟨A9, l9, d9, h9⟩ := trod_is_slice Tryz.underlying36 e9
    cases h0; cases h1; cases h2; cases h3; cases h4; cases h5; cases h6; cases h7; cases h8; cases h9
    obtain ⟨b, rfl, hb⟩ := open_reqs e6
    obtain ⟨v, rfl, hv⟩ := open_votes e7
    obtain ⟨c, rfl, hc⟩ := open_certs e8
    obtain ⟨p, rfl, hp⟩ := open_parts e9
    exact ⟨⟨⟨a0, a1, a2, a3, a4, a5, b, v, c, p⟩, A6, d6, A7, d7, A8, d8, A9, d9⟩, rfl, ⟨f0, f1, f2, f3, f4, f5, hb, hv, hc, hp⟩⟩
end
end Go.Proofs.YtbebfgfpdcdcoaaGreat
/- The takers' contracts where the answer is known; lengths by name. -/
namespace Go.Proofs.YtbebfgfpdcdcoaaGreat
open Go.RowKit

theorem take_votes_no {A : Option Addr} {cap n : Nat} {zs : List Int} {B : Nat} {i : Int} (hn : zs.length = n) (h : tkVotes zs i = none) (hl : n ≤ 9223372036854775806) (hi : i ≤ 9223372036854775807) (hz : ∀ z ∈ zs, 0 ≤ z ∧ z ≤ 255) (w : World) (hB : B ≤ w.heap.size) (hh : Has w B A (u8s zs)) :
    Calls Tryz.prog 101 #[.slice A n cap, .int .i64 i] w fun e w' => e = .returned (.tuple #[.slice none 0 0, .int .i64 0, .bool false]) ∧ Below w.heap.size w w' := by
  subst hn
  refine (take_votes A cap zs B i hl hi hz w hB hh).mono ?_
  rintro e w' ⟨hb, ⟨l, k, A2, c, h1, _⟩ | ⟨_, h2⟩⟩
  · rw [h] at h1; cases h1
  · exact ⟨h2, hb⟩
theorem take_votes_yes {A : Option Addr} {cap n : Nat} {zs : List Int} {B : Nat} {i : Int} (hn : zs.length = n) {l : List Vt} {k : Nat} (h : tkVotes zs i = some (l, (k : Int))) (hl : n ≤ 9223372036854775806) (hi : i ≤ 9223372036854775807) (hz : ∀ z ∈ zs, 0 ≤ z ∧ z ≤ 255) (w : World) (hB : B ≤ w.heap.size) (hh : Has w B A (u8s zs)) :
    Calls Tryz.prog 101 #[.slice A n cap, .int .i64 i] w fun e w' => ∃ A2 c, e = .returned (.tuple #[.slice A2 l.length c, .int .i64 k, .bool true]) ∧ k ≤ n ∧ l.length ≤ 256 ∧ w'.ownsRow w.heap.size 65 2 (.slice A2 l.length c) l.length (voteCells l) ∧ Below w.heap.size w w' := by
  subst hn
  refine (take_votes A cap zs B i hl hi hz w hB hh).mono ?_
  rintro e w' ⟨hb, ⟨l2, k2, A2, c, h1, h2, h3, h4, h5⟩ | ⟨h1, _⟩⟩
  · rw [h] at h1
    injection h1 with h1
    injection h1 with h1 h6
    subst h1
    have h7 : k = k2 := by omega
    subst h7
    exact ⟨A2, c, h4, h2, h3, h5, hb⟩
  · rw [h] at h1; cases h1
theorem take_batch_no {A : Option Addr} {cap n : Nat} {zs : List Int} {B : Nat} {i : Int} (hn : zs.length = n) (h : tkBatch zs i = none) (hl : n ≤ 9223372036854775806) (hi : i ≤ 9223372036854775807) (hz : ∀ z ∈ zs, 0 ≤ z ∧ z ≤ 255) (w : World) (hB : B ≤ w.heap.size) (hh : Has w B A (u8s zs)) :
    Calls Tryz.prog 100 #[.slice A n cap, .int .i64 i] w fun e w' => e = .returned (.tuple #[.slice none 0 0, .int .i64 0, .bool false]) ∧ Below w.heap.size w w' := by
  subst hn
  refine (take_batch A cap zs B i hl hi hz w hB hh).mono ?_
  rintro e w' ⟨hb, ⟨l, k, A2, c, h1, _⟩ | ⟨_, h2⟩⟩
  · rw [h] at h1; cases h1
  · exact ⟨h2, hb⟩
theorem take_batch_yes {A : Option Addr} {cap n : Nat} {zs : List Int} {B : Nat} {i : Int} (hn : zs.length = n) {l : List Rq} {k : Nat} (h : tkBatch zs i = some (l, (k : Int))) (hl : n ≤ 9223372036854775806) (hi : i ≤ 9223372036854775807) (hz : ∀ z ∈ zs, 0 ≤ z ∧ z ≤ 255) (w : World) (hB : B ≤ w.heap.size) (hh : Has w B A (u8s zs)) :
    Calls Tryz.prog 100 #[.slice A n cap, .int .i64 i] w fun e w' => ∃ A2 c, e = .returned (.tuple #[.slice A2 l.length c, .int .i64 k, .bool true]) ∧ k ≤ n ∧ l.length ≤ 256 ∧ w'.ownsRow w.heap.size 69 6 (.slice A2 l.length c) l.length (reqCells l) ∧ Below w.heap.size w w' := by
  subst hn
  refine (take_batch A cap zs B i hl hi hz w hB hh).mono ?_
  rintro e w' ⟨hb, ⟨l2, k2, A2, c, h1, h2, h3, h4, h5⟩ | ⟨h1, _⟩⟩
  · rw [h] at h1
    injection h1 with h1
    injection h1 with h1 h6
    subst h1
    have h7 : k = k2 := by omega
    subst h7
    exact ⟨A2, c, h4, h2, h3, h5, hb⟩
  · rw [h] at h1; cases h1
theorem take_certs_no {A : Option Addr} {cap n : Nat} {zs : List Int} {B : Nat} {i : Int} (hn : zs.length = n) (h : tkCerts zs i = none) (hl : n ≤ 9223372036854775806) (hi : i ≤ 9223372036854775807) (hz : ∀ z ∈ zs, 0 ≤ z ∧ z ≤ 255) (w : World) (hB : B ≤ w.heap.size) (hh : Has w B A (u8s zs)) :
    Calls Tryz.prog 102 #[.slice A n cap, .int .i64 i] w fun e w' => e = .returned (.tuple #[.slice none 0 0, .int .i64 0, .bool false]) ∧ Below w.heap.size w w' := by
  subst hn
  refine (take_certs A cap zs B i hl hi hz w hB hh).mono ?_
  rintro e w' ⟨hb, ⟨l, k, A2, c, h1, _⟩ | ⟨_, h2⟩⟩
  · rw [h] at h1; cases h1
  · exact ⟨h2, hb⟩
theorem take_certs_yes {A : Option Addr} {cap n : Nat} {zs : List Int} {B : Nat} {i : Int} (hn : zs.length = n) {l : List Ct} {k : Nat} (h : tkCerts zs i = some (l, (k : Int))) (hl : n ≤ 9223372036854775806) (hi : i ≤ 9223372036854775807) (hz : ∀ z ∈ zs, 0 ≤ z ∧ z ≤ 255) (w : World) (hB : B ≤ w.heap.size) (hh : Has w B A (u8s zs)) :
    Calls Tryz.prog 102 #[.slice A n cap, .int .i64 i] w fun e w' => ∃ A2 c, e = .returned (.tuple #[.slice A2 l.length c, .int .i64 k, .bool true]) ∧ k ≤ n ∧ l.length ≤ 256 ∧ OwnCerts w' w.heap.size (.slice A2 l.length c) l ∧ Below w.heap.size w w' := by
  subst hn
  refine (take_certs A cap zs B i hl hi hz w hB hh).mono ?_
  rintro e w' ⟨hb, ⟨l2, k2, A2, c, h1, h2, h3, h4, h5⟩ | ⟨h1, _⟩⟩
  · rw [h] at h1
    injection h1 with h1
    injection h1 with h1 h6
    subst h1
    have h7 : k = k2 := by omega
    subst h7
    exact ⟨A2, c, h4, h2, h3, h5, hb⟩
  · rw [h] at h1; cases h1
theorem take_parts_no {A : Option Addr} {cap n : Nat} {zs : List Int} {B : Nat} {i : Int} (hn : zs.length = n) (h : tkParts zs i = none) (hl : n ≤ 9223372036854775806) (hi : i ≤ 9223372036854775807) (hz : ∀ z ∈ zs, 0 ≤ z ∧ z ≤ 255) (w : World) (hB : B ≤ w.heap.size) (hh : Has w B A (u8s zs)) :
    Calls Tryz.prog 103 #[.slice A n cap, .int .i64 i] w fun e w' => e = .returned (.tuple #[.slice none 0 0, .int .i64 0, .bool false]) ∧ Below w.heap.size w w' := by
  subst hn
  refine (take_parts A cap zs B i hl hi hz w hB hh).mono ?_
  rintro e w' ⟨hb, ⟨l, k, A2, c, h1, _⟩ | ⟨_, h2⟩⟩
  · rw [h] at h1; cases h1
  · exact ⟨h2, hb⟩
theorem take_parts_yes {A : Option Addr} {cap n : Nat} {zs : List Int} {B : Nat} {i : Int} (hn : zs.length = n) {l : List Pt} {k : Nat} (h : tkParts zs i = some (l, (k : Int))) (hl : n ≤ 9223372036854775806) (hi : i ≤ 9223372036854775807) (hz : ∀ z ∈ zs, 0 ≤ z ∧ z ≤ 255) (w : World) (hB : B ≤ w.heap.size) (hh : Has w B A (u8s zs)) :
    Calls Tryz.prog 103 #[.slice A n cap, .int .i64 i] w fun e w' => ∃ A2 c, e = .returned (.tuple #[.slice A2 l.length c, .int .i64 k, .bool true]) ∧ k ≤ n ∧ l.length ≤ 256 ∧ OwnParts w' w.heap.size (.slice A2 l.length c) l ∧ Below w.heap.size w w' := by
  subst hn
  refine (take_parts A cap zs B i hl hi hz w hB hh).mono ?_
  rintro e w' ⟨hb, ⟨l2, k2, A2, c, h1, h2, h3, h4, h5⟩ | ⟨h1, _⟩⟩
  · rw [h] at h1
    injection h1 with h1
    injection h1 with h1 h6
    subst h1
    have h7 : k = k2 := by omega
    subst h7
    exact ⟨A2, c, h4, h2, h3, h5, hb⟩
  · rw [h] at h1; cases h1
theorem take_req_yes {A : Option Addr} {cap n : Nat} {zs : List Int} {B : Nat} {i : Int} (hn : zs.length = n) {r : Rq} {k : Nat} (h : tkReq zs i = some (r, (k : Int))) (hl : n ≤ 9223372036854775806) (hi : i ≤ 9223372036854775807) (hz : ∀ z ∈ zs, 0 ≤ z ∧ z ≤ 255) (w : World) (hB : B ≤ w.heap.size) (hh : Has w B A (u8s zs)) :
    Calls Tryz.prog 146 #[.slice A n cap, .int .i64 i] w fun e w' => e = .returned (.tuple #[.agg #[.int .i64 r.cl, .int .i64 r.tm, .int .i64 r.kd, .int .i64 r.ky, .int .i64 r.vl, .int .i64 r.sg], .int .i64 k, .bool true]) ∧ Below w.heap.size w w' := by
  subst hn
  refine (take_req A cap zs B i hl hi hz w hB hh).mono ?_
  rintro e w' ⟨hb, ⟨l2, k2, h1, h2, h3⟩ | ⟨h1, _⟩⟩
  · rw [h] at h1
    injection h1 with h1
    injection h1 with h1 h6
    subst h1
    have h7 : k = k2 := by omega
    subst h7
    exact ⟨h3, hb⟩
  · rw [h] at h1; cases h1
theorem take_req_no {A : Option Addr} {cap n : Nat} {zs : List Int} {B : Nat} {i : Int} (hn : zs.length = n) (h : tkReq zs i = none) (hl : n ≤ 9223372036854775806) (hi : i ≤ 9223372036854775807) (hz : ∀ z ∈ zs, 0 ≤ z ∧ z ≤ 255) (w : World) (hB : B ≤ w.heap.size) (hh : Has w B A (u8s zs)) :
    Calls Tryz.prog 146 #[.slice A n cap, .int .i64 i] w fun e w' => e = .returned (.tuple #[.agg #[.int .i64 0, .int .i64 0, .int .i64 0, .int .i64 0, .int .i64 0, .int .i64 0], .int .i64 0, .bool false]) ∧ Below w.heap.size w w' := by
  subst hn
  refine (take_req A cap zs B i hl hi hz w hB hh).mono ?_
  rintro e w' ⟨hb, ⟨l2, k2, h1, _⟩ | ⟨_, h2⟩⟩
  · rw [h] at h1; cases h1
  · exact ⟨h2, hb⟩
end Go.Proofs.YtbebfgfpdcdcoaaGreat
/- The contracts of keep.Copy at requests and at votes. -/
namespace Go.Proofs.YtbebfgfpdcdcoaaGreat
open Go.RowKit

/-- keep.Copy at requests: a row of the call's own with the same requests. -/
theorem mcopy_reqs (A : Option Addr) (c n B : Nat) (l : List Rq) (w : World) (hl : l.length = n) (hm : n ≤ 1048576) (hh : Has w B A (reqCells l)) (hn : A = none → c = 0) :
    Calls Tryz.prog 92 #[.slice A n c] w fun e w' => ∃ v, e = .returned v ∧ w'.ownsRow w.heap.size 69 6 v n (reqCells l) ∧ Below w.heap.size w w' := by
  obtain ⟨i0, hi0, hx0, hx1, hx2⟩ := info_parts info_req
  have hL : (reqCells l).length = n * 6 := by rw [reqCells_len, hl]
  have h6 := reqCells_one l
  go_enter Tryz.func92, Tryz.ntmps92
  go_wp2_with (at_builtin; refine wpList_apps rfl _ _ 22 rfl w.heap.size 69 i0 _ 6 48 Tryz.underlying22 hi0 hx0 hx1 hx2 rfl (by decide) _ 0 [] rfl (World.ownsRow_nil _ _ _ _) B A n c (reqCells l) rfl hL hh hn h6 (by unfold maxLen; omega) (by omega) (Nat.le_refl _) ?_)
  intro v w1 ho hg _
  go_wp2
  go_ret
  exact ⟨v, rfl, by simpa using ho, (Below.refl _ _).grown hg (Nat.le_refl _) (fun k hk => by cases hk)⟩
/-- keep.Copy at votes: a row of the call's own with the same votes. -/
theorem mcopy_votes (A : Option Addr) (c n B : Nat) (l : List Vt) (w : World) (hl : l.length = n) (hm : n ≤ 1048576) (hh : Has w B A (voteCells l)) (hn : A = none → c = 0) :
    Calls Tryz.prog 93 #[.slice A n c] w fun e w' => ∃ v, e = .returned v ∧ w'.ownsRow w.heap.size 65 2 v n (voteCells l) ∧ Below w.heap.size w w' := by
  obtain ⟨i0, hi0, hx0, hx1, hx2⟩ := info_parts info_vote
  have hL : (voteCells l).length = n * 2 := by rw [voteCells_len, hl]
  have h6 := voteCells_one l
  go_enter Tryz.func93, Tryz.ntmps93
  go_wp2_with (at_builtin; refine wpList_apps rfl _ _ 23 rfl w.heap.size 65 i0 _ 2 16 Tryz.underlying23 hi0 hx0 hx1 hx2 rfl (by decide) _ 0 [] rfl (World.ownsRow_nil _ _ _ _) B A n c (voteCells l) rfl hL hh hn h6 (by unfold maxLen; omega) (by omega) (Nat.le_refl _) ?_)
  intro v w1 ho hg _
  go_wp2
  go_ret
  exact ⟨v, rfl, by simpa using ho, (Below.refl _ _).grown hg (Nat.le_refl _) (fun k hk => by cases hk)⟩
end Go.Proofs.YtbebfgfpdcdcoaaGreat
