/- The contract of pack.TakeVotes. -/
import Derived.Test.YtbebfgfpdcdcoaaGreatOS1
namespace Go.Proofs.YtbebfgfpdcdcoaaGreat
open Go.RowKit

theorem own_base {w : World} {b b' n s : Nat} {e : TypeId} {v : Value} {xs : List Value} (h : w.ownsRow b e s v n xs) (hb : b' ≤ b) : w.ownsRow b' e s v n xs := by
  refine ⟨h.1, ?_⟩
  rcases h.2 with h2 | ⟨g, cap, cur, hv, hg, r⟩
  · exact Or.inl h2
  · exact Or.inr ⟨g, cap, cur, hv, by omega, r⟩
theorem own_blk_lt {w : World} {b n s g : Nat} {e : TypeId} {v : Value} {xs : List Value} (h : w.ownsRow b e s v n xs) (hg : g < b) : v.ownBlock ≠ some g := fun he => by
  have := (h.lt g he).1
  omega
/-- What stands still to be taken at a list's next thing, behind what has been taken. -/
def restOf {α : Type} (f : Tkr α) (done : List α) (n : Nat) (j : Int) : Option (List α × Int) := match tkMany f n j with
  | some (l, k) => some (done ++ l, k)
  | none => none
theorem restOf_zero {α : Type} (f : Tkr α) (done : List α) (j : Int) : restOf f done 0 j = some (done, j) := by simp [restOf, tkMany]
theorem restOf_some {α : Type} {f : Tkr α} {done : List α} {n : Nat} {j k : Int} {x : α} (h : f j = some (x, k)) : restOf f done (n + 1) j = restOf f (done ++ [x]) n k := by
  simp only [restOf, tkMany, h]
  cases tkMany f n k with
  | none => rfl
  | some p => simp
theorem restOf_none {α : Type} {f : Tkr α} {done : List α} {n : Nat} {j : Int} (h : f j = none) : restOf f done (n + 1) j = none := by simp [restOf, tkMany, h]
theorem list_rest {α : Type} {f : Tkr α} {zs : List Int} {i k : Int} {n : Nat} (h : tkLen zs i = some (n, k)) : tkList zs f i = restOf f [] n k := by
  simp only [tkList, h, restOf]
  cases tkMany f n k with
  | none => rfl
  | some p => simp
theorem Tryz.info65 : (Tryz.prog.info? 65).map (fun i => (i.zero, i.size, i.bytes)) = some (some (.agg #[.int .i64 0, .int .i64 0]), 2, 16) := by kernel_rfl

/-- What TakeVotes answers. -/
def VotesTaken (zs : List Int) (i : Int) (w : World) (e : Ending) (w' : World) : Prop :=
  Below w.heap.size w w' ∧ ((∃ (l : List Vt) (k : Nat) (A : Option Addr) (c : Nat), tkVotes zs i = some (l, (k : Int)) ∧ k ≤ zs.length ∧ l.length ≤ 256 ∧ e = .returned (.tuple #[.slice A l.length c, .int .i64 k, .bool true]) ∧
      w'.ownsRow w.heap.size 65 2 (.slice A l.length c) l.length (voteCells l)) ∨
    (tkVotes zs i = none ∧ e = .returned (.tuple #[.slice none 0 0, .int .i64 0, .bool false])))
/-- The frame of TakeVotes. -/
def VotesFrame (B X L nx left p : Value) (a : Act) : Prop :=
  ∃ u2 u3 u6 u9 u10 u11 u12 u13 u14 u15 u16 u17 u18 u19 u20 u21 u22 u23 u24 u25 u26 u27 u28 u29 u30 u31 u32 u33 u34 u35 u36 u37 u38 u39 u40 u41 u42 u43 u44 u45 u46 u47 : Value, a = { tmps := #[B, X, u2, u3, L, nx, u6, left, p, u9, u10, u11, u12, u13, u14, u15, u16, u17, u18, u19, u20, u21, u22, u23, u24, u25, u26, u27, u28, u29, u30, u31, u32, u33, u34, u35, u36, u37, u38, u39, u40, u41, u42, u43, u44, u45, u46, u47], defers := [] }

/-- What holds at each label: 0: nothing is taken; 1: all are taken; 2: at the next vote. -/
def VotesAt (X0 : Value) (i : Int) (zs : List Int) (w : World) (l : Nat) (a : Act) (w' : World) : Prop :=
  ∃ (L : Value) (nx : Nat) (left : Int) (done : List Vt) (c0 c1 : Int), VotesFrame X0 (.int .i64 i) L (.int .i64 nx) (.int .i64 left) (.pointer (some ⟨w.heap.size, 0, none⟩)) a ∧ Below w.heap.size w w' ∧ nx ≤ zs.length ∧
    Blk w' w.heap.size 65 #[.int .i64 c0, .int .i64 c1] ∧ w'.ownsRow (w.heap.size + 1) 65 2 L done.length (voteCells done) ∧
    ((l = 0 ∧ tkVotes zs i = none) ∨ (l = 1 ∧ tkVotes zs i = some (done, (nx : Int)) ∧ done.length ≤ 256) ∨ (l = 2 ∧ ∃ n : Nat, left = n ∧ done.length + n ≤ 256 ∧ tkVotes zs i = restOf (tkVote zs) done n nx))
/-- One vote more. -/
theorem votes_more {w2 : World} {b : Nat} {done : List Vt} {v : Vt} {L2 : Value} (h : w2.ownsRow b 65 2 L2 (done.length + 1) (voteCells done ++ [.int .i64 v.nd, .int .i64 v.sg])) :
    w2.ownsRow b 65 2 L2 (done ++ [v]).length (voteCells (done ++ [v])) := by
  have e : voteCells (done ++ [v]) = voteCells done ++ [.int .i64 v.nd, .int .i64 v.sg] := by simp [voteCells, Vt.cells]
  rw [e, List.length_append]
  exact h

set_option maxHeartbeats 2000000 in
set_option maxRecDepth 100000 in
theorem take_votes (A : Option Addr) (cap : Nat) (zs : List Int) (B : Nat) (i : Int) (hl : zs.length ≤ 9223372036854775806) (hi : i ≤ 9223372036854775807) (hz : ∀ z ∈ zs, 0 ≤ z ∧ z ≤ 255) (w : World) (hB : B ≤ w.heap.size) (hh : Has w B A (u8s zs)) :
    Calls Tryz.prog 101 #[.slice A zs.length cap, .int .i64 i] w (VotesTaken zs i w) := by
  obtain ⟨i0, hinf, hy0, hy1, hy2⟩ := info_parts Tryz.info65
  have HH := Lib.hid (hh.more hB)
  have HN := Lib.hid (fun (i : Int) (hi : i ≤ 9223372036854775807) w B h => take_num A cap zs B i hl hi hz w h)
  have HL := Lib.hid (fun w B h => take_length A cap zs B i hl hi hz w h)
  clear hz hh
  go_enter Tryz.func101, Tryz.ntmps101
  go_wp2
  refine wp_scope_fall (VotesAt (.slice A zs.length cap) i zs w) (fun l a' _ => if l = 2 then (intOf (a'.tmps.getD 7 undef)).toNat + 1 else 0) ?_ ?_
  · rintro l a' w' ⟨L, nx, left, done, c0, c1, ⟨u2, u3, u6, u9, u10, u11, u12, u13, u14, u15, u16, u17, u18, u19, u20, u21, u22, u23, u24, u25, u26, u27, u28, u29, u30, u31, u32, u33, u34, u35, u36, u37, u38, u39, u40, u41, u42, u43, u44, u45, u46, u47, rfl⟩, hb, hnx, hblk, hown, hl3⟩
    have hbs := hb.size
    rcases hl3 with ⟨rfl, hr⟩ | ⟨rfl, hr, hd⟩ | ⟨rfl, n, rfl, hn, hr⟩
    · refine ⟨_, rfl, ?_⟩
      have HR : Hid (VotesTaken zs i w (.returned (.tuple #[.slice none 0 0, .int .i64 0, .bool false])) w') := ⟨hb, Or.inr ⟨hr, rfl⟩⟩
      clear hr
      go_wp2
      go_ret3
      exact HR.out
    · refine ⟨_, rfl, ?_⟩
      obtain ⟨A2, c2, rfl, _, _⟩ := own_slice hown
      have HR : Hid (VotesTaken zs i w (.returned (.tuple #[.slice A2 done.length c2, .int .i64 nx, .bool true])) w') := ⟨hb, Or.inl ⟨done, nx, A2, c2, hr, hnx, hd, rfl, own_base hown (Nat.le_succ _)⟩⟩
      clear hr hown hblk
      go_wp2
      go_ret3
      exact HR.out
    · refine ⟨_, rfl, ?_⟩
      have HR := Lib.hid hr
      have HO := Lib.hid hown
      have HBl := Lib.hid hblk
      have HB0 := Lib.hid hb
      have hh1 := HH.out.below hb (Nat.le_refl _)
      have hh2 := fun v => HH.out.below (hb.setCell (p := ⟨w.heap.size, 0, none⟩) (Nat.le_refl _) v) (Nat.le_refl _)
      have HH1 := Lib.hid hh1
      have HH2 := Lib.hid hh2
      have ce0 : w'.cell? ⟨w.heap.size, 0, none⟩ = some (.int .i64 c0) := hblk.cell 0
      have ce1 : w'.cell? ⟨w.heap.size, 1, none⟩ = some (.int .i64 c1) := hblk.cell 1
      have fr0 := hblk.frozen 0
      have fr1 := hblk.frozen 1
      have hlt := hblk.lt
      clear hr hown hblk hh1 hh2
      cases n with
      | zero =>
        rw [restOf_zero] at HR
        go_wp2
        go_step3
        go_wp2
        exact ⟨L, nx, _, done, c0, c1, ⟨_, _, _, _, _, _, _, _, _, _, _, _, _, _, _, _, _, _, _, _, _, _, _, _, _, _, _, _, _, _, _, _, _, _, _, _, _, _, _, _, _, _, rfl⟩, hb, hnx, HBl.out, HO.out, Or.inr (Or.inl ⟨rfl, HR.out, by omega⟩)⟩
      | succ n =>
        have hne : (((n + 1 : Nat) : Int) == 0) = false := by simp; omega
        go_wp2_with fail
        refine (HN.out nx (by omega) _ _ HH1.out).mono ?_
        rintro e w1 ⟨rfl, ⟨m0, k0, h1, hk0, rfl⟩ | ⟨h1, rfl⟩⟩
        · have H0 := Lib.hid h1
          clear h1
          go_wp2_with fail
          refine (HN.out k0 (by omega) _ _ (HH2.out _)).mono ?_
          rintro e w1 ⟨rfl, ⟨m1, k1, h1, hk1, rfl⟩ | ⟨h1, rfl⟩⟩
          · have H1 := Lib.hid h1
            clear h1
            have HF : Hid (tkVotes zs i = restOf (tkVote zs) (done ++ [⟨m0, m1⟩]) n k1) := HR.out.trans (restOf_some (by simp [tkVote, H0.out, H1.out]))
            have HB2 := Lib.hid (show Blk _ w.heap.size 65 #[.int .i64 m0, .int .i64 m1] from (HBl.out.set_ 0 (.int .i64 m0)).set_ 1 (.int .i64 m1))
            have HO2 := Lib.hid (own_far (own_far HO.out (p := ⟨w.heap.size, 0, none⟩) (own_blk_lt HO.out (Nat.lt_succ_self _)) (.int .i64 m0)) (p := ⟨w.heap.size, 1, none⟩) (own_blk_lt HO.out (Nat.lt_succ_self _)) (.int .i64 m1))
            have HBl2 := Lib.hid ((hb.setCell (p := ⟨w.heap.size, 0, none⟩) (Nat.le_refl _) (.int .i64 m0)).setCell (p := ⟨w.heap.size, 1, none⟩) (Nat.le_refl _) (.int .i64 m1))
            go_wp2_with (at_builtin; refine wpList_append_own _ rfl (.tmp 42) (.tmp 44) 23 rfl (w.heap.size + 1) 65 i0 _ 2 16 Tryz.underlying23 hinf hy0 hy1 hy2 rfl (by decide) _ _ _ rfl (HO2.out.alloc _) ⟨w'.heap.size, 0, none⟩ 1 1 [.int .i64 m0, .int .i64 m1] rfl rfl ?c1 ?c2 ?c3 ?c4 ?c5 ?_)
            case c1 => exact World.news_of_block (cs := #[.int .i64 m0, .int .i64 m1]) (by simpa using heap_alloc_new ((w'.setCell ⟨w.heap.size, 0, none⟩ (.int .i64 m0)).setCell ⟨w.heap.size, 1, none⟩ (.int .i64 m1)) (.cells #[.int .i64 m0, .int .i64 m1] 65))
            case c2 => intro u hu; simp at hu; rcases hu with rfl | rfl <;> rfl
            case c3 => unfold maxLen; omega
            case c4 => omega
            case c5 => simp; omega
            intro L2 w3 ho3 hg3 _
            have HO3 := Lib.hid (votes_more (v := ⟨m0, m1⟩) ho3)
            have HB3 := Lib.hid ((HB2.out.alloc (.cells #[.int .i64 m0, .int .i64 m1] 65)).grown hg3 (fun he => own_blk_lt HO2.out (Nat.lt_succ_self _) he.symm))
            have hb3 := ((HBl2.out.alloc (by simp; omega) (.cells #[.int .i64 m0, .int .i64 m1] 65)).grown hg3 (by simp; omega) (fun k hk => by have := (HO2.out.lt k hk).1; omega))
            clear ho3 hg3 ce0 ce1 fr0 fr1
            go_wp2
            go_step3
            go_wp2
            exact ⟨⟨L2, k1, n, done ++ [⟨m0, m1⟩], m0, m1, ⟨_, _, _, _, _, _, _, _, _, _, _, _, _, _, _, _, _, _, _, _, _, _, _, _, _, _, _, _, _, _, _, _, _, _, _, _, _, _, _, _, _, _, rfl⟩, hb3, hk1, HB3.out, HO3.out, Or.inr (Or.inr ⟨rfl, n, rfl, by simp; omega, HF.out⟩)⟩, by simp [intOf]; omega⟩
          · have HF : Hid (tkVotes zs i = none) := HR.out.trans (restOf_none (by simp [tkVote, H0.out, h1]))
            clear h1
            have HB2 := Lib.hid ((HBl.out.set_ 0 (.int .i64 m0)).set_ 1 (.int .i64 0))
            have HO2 := Lib.hid (own_far (own_far HO.out (p := ⟨w.heap.size, 0, none⟩) (own_blk_lt HO.out (Nat.lt_succ_self _)) (.int .i64 m0)) (p := ⟨w.heap.size, 1, none⟩) (own_blk_lt HO.out (Nat.lt_succ_self _)) (.int .i64 0))
            have HBl2 := Lib.hid ((hb.setCell (p := ⟨w.heap.size, 0, none⟩) (Nat.le_refl _) (.int .i64 m0)).setCell (p := ⟨w.heap.size, 1, none⟩) (Nat.le_refl _) (.int .i64 0))
            go_wp2
            go_step3
            go_wp2
            exact ⟨L, 0, _, done, m0, 0, ⟨_, _, _, _, _, _, _, _, _, _, _, _, _, _, _, _, _, _, _, _, _, _, _, _, _, _, _, _, _, _, _, _, _, _, _, _, _, _, _, _, _, _, rfl⟩, HBl2.out, Nat.zero_le _, HB2.out, HO2.out, Or.inl ⟨rfl, HF.out⟩⟩
        · have HF : Hid (tkVotes zs i = none) := HR.out.trans (restOf_none (by simp [tkVote, h1]))
          clear h1
          have HB2 := Lib.hid (HBl.out.set_ 0 (.int .i64 0))
          have HO2 := Lib.hid (own_far HO.out (p := ⟨w.heap.size, 0, none⟩) (own_blk_lt HO.out (Nat.lt_succ_self _)) (.int .i64 0))
          have HBl2 := Lib.hid (hb.setCell (p := ⟨w.heap.size, 0, none⟩) (Nat.le_refl _) (.int .i64 0))
          go_wp2
          go_step3
          go_wp2
          exact ⟨L, 0, _, done, 0, c1, ⟨_, _, _, _, _, _, _, _, _, _, _, _, _, _, _, _, _, _, _, _, _, _, _, _, _, _, _, _, _, _, _, _, _, _, _, _, _, _, _, _, _, _, rfl⟩, HBl2.out, Nat.zero_le _, HB2.out, HO2.out, Or.inl ⟨rfl, HF.out⟩⟩
  · intro again
    have HAg := Lib.hid again
    clear again
    go_wp2_with fail
    refine (HL.out _ _ (HH.out.below ((Below.refl _ w).alloc (Nat.le_refl _) _) (Nat.le_refl _))).mono ?_
    have HBk := Lib.hid (Blk.new w 65 #[.int .i64 0, .int .i64 0])
    have HBl := Lib.hid ((Below.refl w.heap.size w).alloc (Nat.le_refl _) (.cells #[.int .i64 0, .int .i64 0] 65))
    rintro e w1 ⟨rfl, ⟨n, k, h1, hn, hk, rfl⟩ | ⟨h1, rfl⟩⟩
    · have HF : Hid (tkVotes zs i = restOf (tkVote zs) [] n k) := list_rest h1
      clear h1
      go_wp2
      go_step3
      rename_i hK
      refine hK _ _ (HAg.out 2 _ _ _ rfl ⟨_, k, n, [], 0, 0, ⟨_, _, _, _, _, _, _, _, _, _, _, _, _, _, _, _, _, _, _, _, _, _, _, _, _, _, _, _, _, _, _, _, _, _, _, _, _, _, _, _, _, _, rfl⟩, HBl.out, hk, HBk.out, World.ownsRow_nil _ _ _ _, Or.inr (Or.inr ⟨rfl, n, rfl, by simpa using hn, HF.out⟩)⟩)
    · have HF : Hid (tkVotes zs i = none) := by simp [Hid, tkVotes, tkList, h1]
      clear h1
      go_wp2
      go_step3
      go_wp2
      exact ⟨_, 0, _, [], 0, 0, ⟨_, _, _, _, _, _, _, _, _, _, _, _, _, _, _, _, _, _, _, _, _, _, _, _, _, _, _, _, _, _, _, _, _, _, _, _, _, _, _, _, _, _, rfl⟩, HBl.out, Nat.zero_le _, HBk.out, World.ownsRow_nil _ _ _ _, Or.inl ⟨rfl, HF.out⟩⟩
end Go.Proofs.YtbebfgfpdcdcoaaGreat
