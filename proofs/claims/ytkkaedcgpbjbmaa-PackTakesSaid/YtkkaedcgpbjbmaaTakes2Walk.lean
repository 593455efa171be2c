/- The walk of PackTakes: it returns true for any bytes and any place. -/
import Derived.Test.YtkkaedcgpbjbmaaTakesOpen
namespace Go.Proofs.Ytkkaedcgpbjbmaa
open Go.RowKit

/-- Between two comparisons: the two variables of the closure are as they were. -/
structure TkSt (A : Option Addr) (n c : Nat) (i : Int) (w wx : World) : Prop where
  bl : Below w.heap.size w wx
  ba : Blk wx w.heap.size 24 #[.slice A n c]
  bi : Blk wx (w.heap.size + 1) 3 #[.int .i64 i]
section
variable {A : Option Addr} {n c : Nat} {i : Int} {w W W' : World}
theorem TkSt.only {g : Nat} (h : TkSt A n c i w W) (ho : Only g W W') (hg : w.heap.size + 1 < g) : TkSt A n c i w W' :=
  ⟨h.bl.trans (ho.below (by omega) h.bl.size), ho.blk h.ba (by omega), ho.blk h.bi (by omega)⟩
theorem TkSt.below (h : TkSt A n c i w W) (hb : Below W.heap.size W W') : TkSt A n c i w W' :=
  ⟨h.bl.trans (hb.mono h.bl.size), h.ba.below hb h.ba.lt, h.bi.below hb h.bi.lt⟩
theorem TkSt.alloc (h : TkSt A n c i w W) (o : Obj) : TkSt A n c i w (W.alloc o) := ⟨h.bl.alloc h.bl.size o, h.ba.alloc o, h.bi.alloc o⟩
theorem TkSt.drewN (h : TkSt A n c i w W) (k : Nat) : TkSt A n c i w (W.drewN k) := ⟨h.bl.trans (below_drewN (Below.refl _ _) k), h.ba.drewN k, h.bi.drewN k⟩
end

theorem eye_req_n {A : Option Addr} {cap n : Nat} {zs : List Int} (hn : zs.length = n) (B g : Nat) (st : Option Int) (hl : n ≤ 9223372036854775806) (hz : ∀ z ∈ zs, 0 ≤ z ∧ z ≤ 255) (w : World) (hB : B ≤ g) (he : EyeHas w g (.slice A n cap) st) (hh : Has w B A (u8s zs)) :
    Calls Try.prog 39 #[.pointer (some ⟨g, 0, none⟩)] w (ReqSeen zs g (.slice A n cap) st w) := by
  subst hn
  exact eye_req A cap zs B g st hl hz w hB he hh
theorem eye_batch_n {A : Option Addr} {cap n : Nat} {zs : List Int} (hn : zs.length = n) (B g : Nat) (st : Option Int) (hl : n ≤ 9223372036854775806) (hz : ∀ z ∈ zs, 0 ≤ z ∧ z ≤ 255) (w : World) (hB : B ≤ g) (he : EyeHas w g (.slice A n cap) st) (hh : Has w B A (u8s zs)) :
    Calls Try.prog 40 #[.pointer (some ⟨g, 0, none⟩)] w (ListSeen (tkBatch zs) OwnReqs g (.slice A n cap) st w) := by
  subst hn
  exact eye_batch A cap zs B g st hl hz w hB he hh
theorem eye_votes_n {A : Option Addr} {cap n : Nat} {zs : List Int} (hn : zs.length = n) (B g : Nat) (st : Option Int) (hl : n ≤ 9223372036854775806) (hz : ∀ z ∈ zs, 0 ≤ z ∧ z ≤ 255) (w : World) (hB : B ≤ g) (he : EyeHas w g (.slice A n cap) st) (hh : Has w B A (u8s zs)) :
    Calls Try.prog 41 #[.pointer (some ⟨g, 0, none⟩)] w (ListSeen (tkVotes zs) OwnVotes g (.slice A n cap) st w) := by
  subst hn
  exact eye_votes A cap zs B g st hl hz w hB he hh
theorem eye_certs_n {A : Option Addr} {cap n : Nat} {zs : List Int} (hn : zs.length = n) (B g : Nat) (st : Option Int) (hl : n ≤ 9223372036854775806) (hz : ∀ z ∈ zs, 0 ≤ z ∧ z ≤ 255) (w : World) (hB : B ≤ g) (he : EyeHas w g (.slice A n cap) st) (hh : Has w B A (u8s zs)) :
    Calls Try.prog 42 #[.pointer (some ⟨g, 0, none⟩)] w (ListSeen (tkCerts zs) OwnCerts g (.slice A n cap) st w) := by
  subst hn
  exact eye_certs A cap zs B g st hl hz w hB he hh
theorem eye_parts_n {A : Option Addr} {cap n : Nat} {zs : List Int} (hn : zs.length = n) (B g : Nat) (st : Option Int) (hl : n ≤ 9223372036854775806) (hz : ∀ z ∈ zs, 0 ≤ z ∧ z ≤ 255) (w : World) (hB : B ≤ g) (he : EyeHas w g (.slice A n cap) st) (hh : Has w B A (u8s zs)) :
    Calls Try.prog 43 #[.pointer (some ⟨g, 0, none⟩)] w (ListSeen (tkParts zs) OwnParts g (.slice A n cap) st w) := by
  subst hn
  exact eye_parts A cap zs B g st hl hz w hB he hh
/-- What a taker said, in one word. -/
def Said {α : Type} (F : Tkr α) (i : Int) (zero : α) (x : α) (k : Nat) (ok : Bool) : Prop := (ok = true ∧ F i = some (x, (k : Int))) ∨ (ok = false ∧ F i = none ∧ x = zero ∧ k = 0)
theorem take_req_u {A : Option Addr} {cap n : Nat} {zs : List Int} {B : Nat} {i : Int} (hn : zs.length = n) (hl : n ≤ 9223372036854775806) (hi : i ≤ 9223372036854775807) (hz : ∀ z ∈ zs, 0 ≤ z ∧ z ≤ 255) (w : World) (hB : B ≤ w.heap.size) (hh : Has w B A (u8s zs)) :
    Calls Try.prog 27 #[.slice A n cap, .int .i64 i] w fun e w' => ∃ (r : Rq) (k : Nat) (ok : Bool), e = .returned (.tuple #[.agg #[.int .i64 r.cl, .int .i64 r.tm, .int .i64 r.kd, .int .i64 r.ky, .int .i64 r.vl, .int .i64 r.sg], .int .i64 k, .bool ok]) ∧ Said (tkReq zs) i ⟨0, 0, 0, 0, 0, 0⟩ r k ok ∧ k ≤ n ∧ Below w.heap.size w w' := by
  subst hn
  refine (take_req A cap zs B i hl hi hz w hB hh).mono ?_
  rintro e w' ⟨hb, ⟨r, k, h1, hk, rfl⟩ | ⟨h1, rfl⟩⟩
  · exact ⟨r, k, true, rfl, Or.inl ⟨rfl, h1⟩, hk, hb⟩
  · exact ⟨⟨0, 0, 0, 0, 0, 0⟩, 0, false, rfl, Or.inr ⟨rfl, h1, rfl, rfl⟩, Nat.zero_le _, hb⟩
theorem take_batch_u {A : Option Addr} {cap n : Nat} {zs : List Int} {B : Nat} {i : Int} (hn : zs.length = n) (hl : n ≤ 9223372036854775806) (hi : i ≤ 9223372036854775807) (hz : ∀ z ∈ zs, 0 ≤ z ∧ z ≤ 255) (w : World) (hB : B ≤ w.heap.size) (hh : Has w B A (u8s zs)) :
    Calls Try.prog 28 #[.slice A n cap, .int .i64 i] w fun e w' => ∃ (l : List Rq) (A2 : Option Addr) (c k : Nat) (ok : Bool), e = .returned (.tuple #[.slice A2 l.length c, .int .i64 k, .bool ok]) ∧ Said (tkBatch zs) i [] l k ok ∧ k ≤ n ∧ l.length ≤ 256 ∧ OwnReqs w' w.heap.size (.slice A2 l.length c) l ∧ Below w.heap.size w w' := by
  subst hn
  refine (take_batch A cap zs B i hl hi hz w hB hh).mono ?_
  rintro e w' ⟨hb, ⟨l, k, A2, c, h1, hk, hl2, rfl, ho⟩ | ⟨h1, rfl⟩⟩
  · exact ⟨l, A2, c, k, true, rfl, Or.inl ⟨rfl, h1⟩, hk, hl2, ho, hb⟩
  · exact ⟨[], none, 0, 0, false, rfl, Or.inr ⟨rfl, h1, rfl, rfl⟩, Nat.zero_le _, Nat.zero_le _, World.ownsRow_nil _ _ _ _, hb⟩
theorem take_votes_u {A : Option Addr} {cap n : Nat} {zs : List Int} {B : Nat} {i : Int} (hn : zs.length = n) (hl : n ≤ 9223372036854775806) (hi : i ≤ 9223372036854775807) (hz : ∀ z ∈ zs, 0 ≤ z ∧ z ≤ 255) (w : World) (hB : B ≤ w.heap.size) (hh : Has w B A (u8s zs)) :
    Calls Try.prog 32 #[.slice A n cap, .int .i64 i] w fun e w' => ∃ (l : List Vt) (A2 : Option Addr) (c k : Nat) (ok : Bool), e = .returned (.tuple #[.slice A2 l.length c, .int .i64 k, .bool ok]) ∧ Said (tkVotes zs) i [] l k ok ∧ k ≤ n ∧ l.length ≤ 256 ∧ OwnVotes w' w.heap.size (.slice A2 l.length c) l ∧ Below w.heap.size w w' := by
  subst hn
  refine (take_votes A cap zs B i hl hi hz w hB hh).mono ?_
  rintro e w' ⟨hb, ⟨l, k, A2, c, h1, hk, hl2, rfl, ho⟩ | ⟨h1, rfl⟩⟩
  · exact ⟨l, A2, c, k, true, rfl, Or.inl ⟨rfl, h1⟩, hk, hl2, ho, hb⟩
  · exact ⟨[], none, 0, 0, false, rfl, Or.inr ⟨rfl, h1, rfl, rfl⟩, Nat.zero_le _, Nat.zero_le _, World.ownsRow_nil _ _ _ _, hb⟩
theorem take_certs_u {A : Option Addr} {cap n : Nat} {zs : List Int} {B : Nat} {i : Int} (hn : zs.length = n) (hl : n ≤ 9223372036854775806) (hi : i ≤ 9223372036854775807) (hz : ∀ z ∈ zs, 0 ≤ z ∧ z ≤ 255) (w : World) (hB : B ≤ w.heap.size) (hh : Has w B A (u8s zs)) :
    Calls Try.prog 23 #[.slice A n cap, .int .i64 i] w fun e w' => ∃ (l : List Ct) (A2 : Option Addr) (c k : Nat) (ok : Bool), e = .returned (.tuple #[.slice A2 l.length c, .int .i64 k, .bool ok]) ∧ Said (tkCerts zs) i [] l k ok ∧ k ≤ n ∧ l.length ≤ 256 ∧ OwnCerts w' w.heap.size (.slice A2 l.length c) l ∧ Below w.heap.size w w' := by
  subst hn
  refine (take_certs A cap zs B i hl hi hz w hB hh).mono ?_
  rintro e w' ⟨hb, ⟨l, k, A2, c, h1, hk, hl2, rfl, ho⟩ | ⟨h1, rfl⟩⟩
  · exact ⟨l, A2, c, k, true, rfl, Or.inl ⟨rfl, h1⟩, hk, hl2, ho, hb⟩
  · exact ⟨[], none, 0, 0, false, rfl, Or.inr ⟨rfl, h1, rfl, rfl⟩, Nat.zero_le _, Nat.zero_le _, OwnCerts.nil _ _, hb⟩
theorem take_parts_u {A : Option Addr} {cap n : Nat} {zs : List Int} {B : Nat} {i : Int} (hn : zs.length = n) (hl : n ≤ 9223372036854775806) (hi : i ≤ 9223372036854775807) (hz : ∀ z ∈ zs, 0 ≤ z ∧ z ≤ 255) (w : World) (hB : B ≤ w.heap.size) (hh : Has w B A (u8s zs)) :
    Calls Try.prog 36 #[.slice A n cap, .int .i64 i] w fun e w' => ∃ (l : List Pt) (A2 : Option Addr) (c k : Nat) (ok : Bool), e = .returned (.tuple #[.slice A2 l.length c, .int .i64 k, .bool ok]) ∧ Said (tkParts zs) i [] l k ok ∧ k ≤ n ∧ l.length ≤ 256 ∧ OwnParts w' w.heap.size (.slice A2 l.length c) l ∧ Below w.heap.size w w' := by
  subst hn
  refine (take_parts A cap zs B i hl hi hz w hB hh).mono ?_
  rintro e w' ⟨hb, ⟨l, k, A2, c, h1, hk, hl2, rfl, ho⟩ | ⟨h1, rfl⟩⟩
  · exact ⟨l, A2, c, k, true, rfl, Or.inl ⟨rfl, h1⟩, hk, hl2, ho, hb⟩
  · exact ⟨[], none, 0, 0, false, rfl, Or.inr ⟨rfl, h1, rfl, rfl⟩, Nat.zero_le _, Nat.zero_le _, OwnParts.nil _ _, hb⟩
theorem tkMany_mem {α : Type} {f : Tkr α} : ∀ {n : Nat} {i j : Int} {l : List α}, tkMany f n i = some (l, j) → l.length = n ∧ ∀ x ∈ l, ∃ i' k', f i' = some (x, k') := by
  intro n
  induction n with
  | zero =>
    intro i j l h
    simp only [tkMany, Option.some.injEq, Prod.mk.injEq] at h
    obtain ⟨rfl, _⟩ := h
    exact ⟨rfl, by simp⟩
  | succ n ih =>
    intro i j l h
    unfold tkMany at h
    cases hf : f i with
    | none => simp [hf] at h
    | some v =>
      obtain ⟨x, k⟩ := v
      simp only [hf] at h
      cases hm : tkMany f n k with
      | none => simp [hm] at h
      | some u =>
        obtain ⟨l', j'⟩ := u
        simp only [hm, Option.some.injEq, Prod.mk.injEq] at h
        obtain ⟨rfl, _⟩ := h
        obtain ⟨h1, h2⟩ := ih hm
        refine ⟨by simp [h1], fun y hy => ?_⟩
        rcases List.mem_cons.1 hy with rfl | hy
        · exact ⟨i, k, hf⟩
        · exact h2 y hy
theorem tkList_mem {α : Type} {f : Tkr α} {zs : List Int} {i j : Int} {l : List α} (h : tkList zs f i = some (l, j)) : l.length ≤ 256 ∧ ∀ x ∈ l, ∃ i' k', f i' = some (x, k') := by
  unfold tkList at h
  cases hn : tkLen zs i with
  | none => simp [hn] at h
  | some v =>
    obtain ⟨n, k⟩ := v
    simp only [hn] at h
    obtain ⟨h1, h2⟩ := tkMany_mem h
    refine ⟨?_, h2⟩
    unfold tkLen at hn
    cases ht : tk zs i with
    | none => simp [ht] at hn
    | some u =>
      obtain ⟨m, q⟩ := u
      simp only [ht] at hn
      by_cases hm : m ≤ 256
      · rw [if_pos hm] at hn
        simp only [Option.some.injEq, Prod.mk.injEq] at hn
        omega
      · rw [if_neg hm] at hn
        cases hn
theorem tkCert_small {zs : List Int} {i k : Int} {x : Ct} (h : tkCert zs i = some (x, k)) : smallCert x := by
  simp only [tkCert, Option.bind_eq_some_iff] at h
  obtain ⟨a1, _, a2, _, a3, _, a4, h4, a5, h5, h⟩ := h
  simp only [Option.some.injEq, Prod.mk.injEq] at h
  obtain ⟨rfl, _⟩ := h
  have h6 := (tkList_mem (show tkList zs (tkReq zs) _ = some (a4.1, a4.2) from h4)).1
  have h7 := (tkList_mem (show tkList zs (tkVote zs) _ = some (a5.1, a5.2) from h5)).1
  exact ⟨Nat.le_trans h6 (by omega), Nat.le_trans h7 (by omega)⟩
theorem tkCerts_small {zs : List Int} {i k : Int} {l : List Ct} (h : tkCerts zs i = some (l, k)) : ∀ x ∈ l, smallCert x := fun x hx => by
  obtain ⟨_, _, h1⟩ := (tkList_mem h).2 x hx
  exact tkCert_small h1
theorem tkParts_small {zs : List Int} {i k : Int} {l : List Pt} (h : tkParts zs i = some (l, k)) : ∀ x ∈ l, smallPart x := fun x hx => by
  obtain ⟨_, _, h1⟩ := (tkList_mem h).2 x hx
  simp only [tkPart, Option.bind_eq_some_iff] at h1
  obtain ⟨a1, _, a2, h2, a3, h3, a4, _, h4⟩ := h1
  simp only [Option.some.injEq, Prod.mk.injEq] at h4
  obtain ⟨rfl, _⟩ := h4
  have h6 := (tkList_mem (show tkList zs (tkVote zs) _ = some (a2.1, a2.2) from h2)).1
  have h7 := (tkList_mem (show tkList zs (tkCert zs) _ = some (a3.1, a3.2) from h3)).1
  exact ⟨Nat.le_trans h6 (by omega), Nat.le_trans h7 (by omega), tkCerts_small (show tkCerts zs _ = some (a3.1, a3.2) from h3)⟩
theorem same_parts_is2 {A A' : Option Addr} {c c' la lb : Nat} {zs ys : List Pt} {B : Nat} {r : Bool} (ha : zs.length = la) (hb : ys.length = lb) (hl : la ≤ 9223372036854775806) (hr : sameL zs ys = r) (hs : ∀ x ∈ zs, smallPart x)
    (w : World) (hB : B ≤ w.heap.size) (h1 : HasParts w B A zs) (h2 : HasParts w B A' ys) :
    Calls Try.prog 37 #[.slice A la c, .slice A' lb c'] w fun e w' => e = .returned (.bool r) ∧ Below w.heap.size w w' := by
  subst ha; subst hb; subst hr
  exact same_parts A A' c c' zs ys B w hl h1 h2 hB hs
theorem said_yes {α : Type} {F : Tkr α} {i k : Int} {x y : α} {st : Option Int} (h : F i = some (x, k)) (he : Eyed F (some i) st y) : st = some k ∧ y = x := by
  simp only [Eyed, h] at he
  exact he
theorem said_no {α : Type} {F : Tkr α} {i : Int} {y : α} {st : Option Int} (h : F i = none) (he : Eyed F (some i) st y) : st = none := by
  simp only [Eyed, h] at he
  exact he

set_option maxHeartbeats 8000000 in
set_option maxRecDepth 100000 in
theorem packTakes_core (A : Option Addr) (c n0 n : Nat) (zs2 : List Int) (i0 i : Int) (w : World) (hn2 : zs2.length = n) (hn : n ≤ 600) (hcap0 : n0 ≤ c) (hcap : n ≤ c) (hc : c ≤ 9223372036854775807) (hz : ∀ z ∈ zs2, 0 ≤ z ∧ z ≤ 255) (hh : Has w w.heap.size A (u8s zs2)) (hi : i ≤ 700) (hi0 : -9223372036854775808 ≤ i)
    (hN : (600 < n0 ∧ n = 600) ∨ (n0 ≤ 600 ∧ n = n0)) (hI : (700 < i0 ∧ i0 ≤ 9223372036854775807 ∧ i0 % 700 = i) ∨ (i0 ≤ 700 ∧ i = i0)) :
    Calls Try.prog 9 #[.slice A n0 c, .int .i64 i0] w fun e w' => e = .returned (.bool true) ∧ Below w.heap.size w w' := by
  have HZ := Lib.hid hz
  have HO := Lib.hid hh
  have HL := Lib.hid hn2
  have HN := Lib.hid hN
  have HI := Lib.hid hI
  have HBl := Lib.hid (((Below.refl w.heap.size w).alloc (Nat.le_refl _) (.cells #[.slice A n0 c] 24)).alloc (by simp) (.cells #[.int .i64 i0] 3))
  have HBa := Lib.hid ((Blk.new w 24 #[.slice A n0 c]).alloc (.cells #[.int .i64 i0] 3))
  have HBi := Lib.hid (Blk.new1 w (.cells #[.slice A n0 c] 24) 3 #[.int .i64 i0])
  clear hz hh hn2 hN hI
  go_enter Try.func9, Try.ntmps9
  go_upto_if 21 with fail
  go_cut [] (fun wx => TkSt A n c i0 w wx)
  case first => as_aux_lemma =>
    rcases HN.out with ⟨h1, rfl⟩ | ⟨h1, rfl⟩
    · go_wp2_with fail
      go_meet
      exact ⟨((Below.refl w.heap.size w).alloc (Nat.le_refl _) _).alloc (by simp) _, (Blk.new w _ _).alloc _, Blk.new1 _ _ _ _⟩
    · go_wp2_with fail
      go_meet
      exact ⟨HBl.out, HBa.out, HBi.out⟩
  case rest => as_aux_lemma =>
    clear HBl HBa HBi
    have hS := hcut
    have d1 : wc.cell? ⟨w.heap.size + 1, 0, none⟩ = some (.int .i64 i0) := hS.bi.cell 0
    have f1 : wc.frozen? ⟨w.heap.size + 1, 0, none⟩ = false := hS.bi.frozen 0
    have HS := Lib.hid hS
    clear hS hcut
    go_upto_if 25 with fail
    go_cut [] (fun wx => TkSt A n c i w wx)
    case first => as_aux_lemma =>
      rcases HI.out with ⟨h1, h2, rfl⟩ | ⟨h1, rfl⟩
      · have HW := Lib.hid (fun w => within_any i0 700 (by omega) (by omega) (by omega) h2 w)
        go_wp2_with fail
        refine (HW.out _).mono ?_
        rintro e wv ⟨rfl, rfl⟩
        go_wp2_with fail
        go_meet
        exact ⟨HS.out.bl.setCell (p := ⟨w.heap.size + 1, 0, none⟩) (Nat.le_succ _) _, HS.out.ba.far (by simp) _, HS.out.bi.set_ 0 (.int .i64 (i0 % 700))⟩
      · go_wp2_with fail
        go_meet
        exact HS.out
    case rest => as_aux_lemma =>
      clear d1 f1
      have hS := hcut
      have HS := Lib.hid hS
      clear hS hcut
      go_wp2_with fail
      refine (eye_new (.slice A n c) i w.heap.size (w.heap.size + 1) _ (HS.out.ba.cell 0) (HS.out.bi.cell 0) A n c rfl).mono ?_
      rintro e wn ⟨rfl, rfl⟩
      have hlt0 := HS.out.bi.lt
      have HE0 := Lib.hid (show EyeHas (wc.alloc (.cells #[.slice A n c, .int .i64 i, .bool false] 70)) wc.heap.size (.slice A n c) (some i) from ⟨i, false, Blk.new _ _ _, by omega, Or.inl ⟨rfl, rfl⟩⟩)
      have HS0 := Lib.hid (HS.out.alloc (.cells #[.slice A n c, .int .i64 i, .bool false] 70))
      go_wp2_with fail
      refine (eye_req_n (cap := c) (n := n) (zs := zs2) HL.out w.heap.size wc.heap.size (some i) (by omega) HZ.out _ (by omega) HE0.out (HO.out.below HS0.out.bl (Nat.le_refl _))).mono ?_
      rintro e v1 ⟨x1, st1, rfl, hf, he, ho⟩
      have HF := Lib.hid hf
      have HE1 := Lib.hid he
      have HS1 := Lib.hid (HS0.out.only ho hlt0)
      have d0 : v1.cell? ⟨w.heap.size, 0, none⟩ = some (.slice A n c) := HS1.out.ba.cell 0
      have d1 : v1.cell? ⟨w.heap.size + 1, 0, none⟩ = some (.int .i64 i) := HS1.out.bi.cell 0
      have e0 : (v1.alloc (.cells #[.int .i64 x1.cl, .int .i64 x1.tm, .int .i64 x1.kd, .int .i64 x1.ky, .int .i64 x1.vl, .int .i64 x1.sg] 31)).cell? ⟨w.heap.size, 0, none⟩ = some (.slice A n c) := (HS1.out.alloc _).ba.cell 0
      have e1 : (v1.alloc (.cells #[.int .i64 x1.cl, .int .i64 x1.tm, .int .i64 x1.kd, .int .i64 x1.ky, .int .i64 x1.vl, .int .i64 x1.sg] 31)).cell? ⟨w.heap.size + 1, 0, none⟩ = some (.int .i64 i) := (HS1.out.alloc _).bi.cell 0
      have HXd := Lib.hid (Blk.new v1 31 #[.int .i64 x1.cl, .int .i64 x1.tm, .int .i64 x1.kd, .int .i64 x1.ky, .int .i64 x1.vl, .int .i64 x1.sg])
      have hv := HS1.out.bi.lt
      clear hf he ho
      go_wp2_with fail
      have HSd1 := Lib.hid (HS1.out.alloc (.cells #[.int .i64 x1.cl, .int .i64 x1.tm, .int .i64 x1.kd, .int .i64 x1.ky, .int .i64 x1.vl, .int .i64 x1.sg] 31))
      have HEd := Lib.hid (HE1.out.alloc (.cells #[.int .i64 x1.cl, .int .i64 x1.tm, .int .i64 x1.kd, .int .i64 x1.ky, .int .i64 x1.vl, .int .i64 x1.sg] 31))
      clear d0 d1 e0 e1
      refine (take_req_u (A := A) (cap := c) (i := i) (n := n) (zs := zs2) HL.out (by omega) (by omega) HZ.out _ HSd1.out.bl.size (HO.out.below HSd1.out.bl (Nat.le_refl _))).mono ?_
      rintro e v2 ⟨x2, k2, ok, rfl, hsaid, hk2, hb2⟩
      have HX1 := Lib.hid (HXd.out.below hb2 HXd.out.lt)
      have HE2 := Lib.hid (HEd.out.below hb2 HEd.out.lt)
      have HS2 := Lib.hid (HSd1.out.below hb2)
      have HSd := Lib.hid hsaid
      have dx0 : (v2.alloc (.cells #[.int .i64 x2.cl, .int .i64 x2.tm, .int .i64 x2.kd, .int .i64 x2.ky, .int .i64 x2.vl, .int .i64 x2.sg] 31)).cell? ⟨v1.heap.size, 0, none⟩ = some (.int .i64 x1.cl) := (HX1.out.alloc _).cell 0
      have dx1 : (v2.alloc (.cells #[.int .i64 x2.cl, .int .i64 x2.tm, .int .i64 x2.kd, .int .i64 x2.ky, .int .i64 x2.vl, .int .i64 x2.sg] 31)).cell? ⟨v1.heap.size, 1, none⟩ = some (.int .i64 x1.tm) := (HX1.out.alloc _).cell 1
      have dx2 : (v2.alloc (.cells #[.int .i64 x2.cl, .int .i64 x2.tm, .int .i64 x2.kd, .int .i64 x2.ky, .int .i64 x2.vl, .int .i64 x2.sg] 31)).cell? ⟨v1.heap.size, 2, none⟩ = some (.int .i64 x1.kd) := (HX1.out.alloc _).cell 2
      have dx3 : (v2.alloc (.cells #[.int .i64 x2.cl, .int .i64 x2.tm, .int .i64 x2.kd, .int .i64 x2.ky, .int .i64 x2.vl, .int .i64 x2.sg] 31)).cell? ⟨v1.heap.size, 3, none⟩ = some (.int .i64 x1.ky) := (HX1.out.alloc _).cell 3
      have dx4 : (v2.alloc (.cells #[.int .i64 x2.cl, .int .i64 x2.tm, .int .i64 x2.kd, .int .i64 x2.ky, .int .i64 x2.vl, .int .i64 x2.sg] 31)).cell? ⟨v1.heap.size, 4, none⟩ = some (.int .i64 x1.vl) := (HX1.out.alloc _).cell 4
      have dx5 : (v2.alloc (.cells #[.int .i64 x2.cl, .int .i64 x2.tm, .int .i64 x2.kd, .int .i64 x2.ky, .int .i64 x2.vl, .int .i64 x2.sg] 31)).cell? ⟨v1.heap.size, 5, none⟩ = some (.int .i64 x1.sg) := (HX1.out.alloc _).cell 5
      clear hsaid hb2
      have hlt2 := HE2.out.lt
      go_upto_region 9 with fail
      go_cut [74] (fun sc wx => sc = .bool false ∧ TkSt A n c i w wx)
      case first => as_aux_lemma =>
        rcases HSd.out with ⟨rfl, h1⟩ | ⟨rfl, h1, rfl, rfl⟩
        · obtain ⟨rfl, rfl⟩ := said_yes h1 HF.out
          obtain ⟨ce2, ce1⟩ := (HE2.out.alloc (.cells #[.int .i64 x1.cl, .int .i64 x1.tm, .int .i64 x1.kd, .int .i64 x1.ky, .int .i64 x1.vl, .int .i64 x1.sg] 31)).good
          have G := fun (w : World) => guard_req .neq (.tmp 49) (.tmp 50) #[.int .i64 x1.cl, .int .i64 x1.tm, .int .i64 x1.kd, .int .i64 x1.ky, .int .i64 x1.vl, .int .i64 x1.sg] #[.int .i64 x1.cl, .int .i64 x1.tm, .int .i64 x1.kd, .int .i64 x1.ky, .int .i64 x1.vl, .int .i64 x1.sg] w
          have E := fun (w : World) => neq_req (x := x1) (y := x1) (r := false) (by simp) w
          clear h1
          go_wp2_with fail
          go_meet
          exact ⟨rfl, HS2.out.alloc _⟩
        · obtain rfl := said_no h1 HF.out
          have ce2 := (HE2.out.alloc (.cells #[.int .i64 0, .int .i64 0, .int .i64 0, .int .i64 0, .int .i64 0, .int .i64 0] 31)).bad
          have G := fun (w : World) => guard_req .neq (.tmp 66) (.tmp 67) #[.int .i64 0, .int .i64 0, .int .i64 0, .int .i64 0, .int .i64 0, .int .i64 0] #[.int .i64 0, .int .i64 0, .int .i64 0, .int .i64 0, .int .i64 0, .int .i64 0] w
          have E := fun (w : World) => neq_req (x := ⟨0, 0, 0, 0, 0, 0⟩) (y := ⟨0, 0, 0, 0, 0, 0⟩) (r := false) (by simp) w
          clear h1
          go_wp2_with fail
          go_meet
          exact ⟨rfl, HS2.out.alloc _⟩
      case rest => as_aux_lemma =>
        obtain ⟨rfl, hS⟩ := hcut
        clear dx0 dx1 dx2 dx3 dx4 dx5 HX1
        clear HE0 HE1 HE2 HS0 HS1 HS2 HF HSd
        have HS := Lib.hid hS
        clear hS
        go_wp2_with fail
        refine (eye_new (.slice A n c) i w.heap.size (w.heap.size + 1) _ (HS.out.ba.cell 0) (HS.out.bi.cell 0) A n c rfl).mono ?_
        rintro e wn ⟨rfl, rfl⟩
        have hlt0 := HS.out.bi.lt
        have HE0 := Lib.hid (show EyeHas (wc.alloc (.cells #[.slice A n c, .int .i64 i, .bool false] 70)) wc.heap.size (.slice A n c) (some i) from ⟨i, false, Blk.new _ _ _, by omega, Or.inl ⟨rfl, rfl⟩⟩)
        have HS0 := Lib.hid (HS.out.alloc (.cells #[.slice A n c, .int .i64 i, .bool false] 70))
        go_wp2_with fail
        refine (eye_batch_n (cap := c) (n := n) (zs := zs2) HL.out w.heap.size wc.heap.size (some i) (by omega) HZ.out _ (by omega) HE0.out (HO.out.below HS0.out.bl (Nat.le_refl _))).mono ?_
        rintro e v1 ⟨x1, vv, st1, rfl, hx1, hf, hown, he, ho⟩
        obtain ⟨A1, c1, rfl, _, _⟩ := own_slice hown
        have HF := Lib.hid hf
        have HE1 := Lib.hid he
        have HS1 := Lib.hid (HS0.out.only ho hlt0)
        have d0 : v1.cell? ⟨w.heap.size, 0, none⟩ = some (.slice A n c) := HS1.out.ba.cell 0
        have d1 : v1.cell? ⟨w.heap.size + 1, 0, none⟩ = some (.int .i64 i) := HS1.out.bi.cell 0
        have HW1 := Lib.hid hown
        clear hf he ho hown
        go_wp2_with fail
        refine (take_batch_u (A := A) (cap := c) (i := i) (n := n) (zs := zs2) HL.out (by omega) (by omega) HZ.out _ HS1.out.bl.size (HO.out.below HS1.out.bl (Nat.le_refl _))).mono ?_
        rintro e v2 ⟨x2, A2, c2, k2, ok, rfl, hsaid, hk2, hx2, hown2, hb2⟩
        have HE2 := Lib.hid (HE1.out.below hb2 HE1.out.lt)
        have HS2 := Lib.hid (HS1.out.below hb2)
        have HR1 := Lib.hid (Has.ownS (below_own HW1.out hb2 (Nat.le_refl _)))
        have HR2 := Lib.hid (Has.ownS hown2)
        have HSd := Lib.hid hsaid
        have hlt2 := HE2.out.lt
        clear hsaid hb2 hown2 d0 d1
        go_upto_region 14 with fail
        go_cut [119] (fun sc wx => sc = .bool false ∧ TkSt A n c i w wx)
        case first => as_aux_lemma =>
          rcases HSd.out with ⟨rfl, h1⟩ | ⟨rfl, h1, rfl, rfl⟩
          · obtain ⟨rfl, rfl⟩ := said_yes h1 HF.out
            obtain ⟨ce2, ce1⟩ := HE2.out.good
            clear h1
            go_wp2_with fail
            refine (same_reqs_is rfl rfl (by omega) (sameL_true.2 rfl) _ HR2.out HR1.out).mono ?_
            rintro e v3 ⟨rfl, nq, rfl⟩
            go_wp2_with fail
            go_meet
            exact ⟨rfl, HS2.out.drewN _⟩
          · obtain rfl := said_no h1 HF.out
            have ce2 := HE2.out.bad
            clear h1
            go_wp2_with fail
            go_meet
            exact ⟨rfl, HS2.out⟩
        case rest => as_aux_lemma =>
          obtain ⟨rfl, hS⟩ := hcut
          clear HE0 HE1 HE2 HS0 HS1 HS2 HF HSd HR1 HR2 HW1 hx1 hx2 hk2
          have HS := Lib.hid hS
          clear hS
          go_wp2_with fail
          refine (eye_new (.slice A n c) i w.heap.size (w.heap.size + 1) _ (HS.out.ba.cell 0) (HS.out.bi.cell 0) A n c rfl).mono ?_
          rintro e wn ⟨rfl, rfl⟩
          have hlt0 := HS.out.bi.lt
          have HE0 := Lib.hid (show EyeHas (wc.alloc (.cells #[.slice A n c, .int .i64 i, .bool false] 70)) wc.heap.size (.slice A n c) (some i) from ⟨i, false, Blk.new _ _ _, by omega, Or.inl ⟨rfl, rfl⟩⟩)
          have HS0 := Lib.hid (HS.out.alloc (.cells #[.slice A n c, .int .i64 i, .bool false] 70))
          go_wp2_with fail
          refine (eye_votes_n (cap := c) (n := n) (zs := zs2) HL.out w.heap.size wc.heap.size (some i) (by omega) HZ.out _ (by omega) HE0.out (HO.out.below HS0.out.bl (Nat.le_refl _))).mono ?_
          rintro e v1 ⟨x1, vv, st1, rfl, hx1, hf, hown, he, ho⟩
          obtain ⟨A1, c1, rfl, _, _⟩ := own_slice hown
          have HF := Lib.hid hf
          have HE1 := Lib.hid he
          have HS1 := Lib.hid (HS0.out.only ho hlt0)
          have d0 : v1.cell? ⟨w.heap.size, 0, none⟩ = some (.slice A n c) := HS1.out.ba.cell 0
          have d1 : v1.cell? ⟨w.heap.size + 1, 0, none⟩ = some (.int .i64 i) := HS1.out.bi.cell 0
          have HW1 := Lib.hid hown
          clear hf he ho hown
          go_wp2_with fail
          refine (take_votes_u (A := A) (cap := c) (i := i) (n := n) (zs := zs2) HL.out (by omega) (by omega) HZ.out _ HS1.out.bl.size (HO.out.below HS1.out.bl (Nat.le_refl _))).mono ?_
          rintro e v2 ⟨x2, A2, c2, k2, ok, rfl, hsaid, hk2, hx2, hown2, hb2⟩
          have HE2 := Lib.hid (HE1.out.below hb2 HE1.out.lt)
          have HS2 := Lib.hid (HS1.out.below hb2)
          have HR1 := Lib.hid (Has.ownS (below_own HW1.out hb2 (Nat.le_refl _)))
          have HR2 := Lib.hid (Has.ownS hown2)
          have HSd := Lib.hid hsaid
          have hlt2 := HE2.out.lt
          clear hsaid hb2 hown2 d0 d1
          go_upto_region 19 with fail
          go_cut [164] (fun sc wx => sc = .bool false ∧ TkSt A n c i w wx)
          case first => as_aux_lemma =>
            rcases HSd.out with ⟨rfl, h1⟩ | ⟨rfl, h1, rfl, rfl⟩
            · obtain ⟨rfl, rfl⟩ := said_yes h1 HF.out
              obtain ⟨ce2, ce1⟩ := HE2.out.good
              clear h1
              go_wp2_with fail
              refine (same_votes_is rfl rfl (by omega) (sameL_true.2 rfl) _ HR2.out HR1.out).mono ?_
              rintro e v3 ⟨rfl, nq, rfl⟩
              go_wp2_with fail
              go_meet
              exact ⟨rfl, HS2.out.drewN _⟩
            · obtain rfl := said_no h1 HF.out
              have ce2 := HE2.out.bad
              clear h1
              go_wp2_with fail
              go_meet
              exact ⟨rfl, HS2.out⟩
          case rest => as_aux_lemma =>
            obtain ⟨rfl, hS⟩ := hcut
            clear HE0 HE1 HE2 HS0 HS1 HS2 HF HSd HR1 HR2 HW1 hx1 hx2 hk2
            have HS := Lib.hid hS
            clear hS
            go_wp2_with fail
            refine (eye_new (.slice A n c) i w.heap.size (w.heap.size + 1) _ (HS.out.ba.cell 0) (HS.out.bi.cell 0) A n c rfl).mono ?_
            rintro e wn ⟨rfl, rfl⟩
            have hlt0 := HS.out.bi.lt
            have HE0 := Lib.hid (show EyeHas (wc.alloc (.cells #[.slice A n c, .int .i64 i, .bool false] 70)) wc.heap.size (.slice A n c) (some i) from ⟨i, false, Blk.new _ _ _, by omega, Or.inl ⟨rfl, rfl⟩⟩)
            have HS0 := Lib.hid (HS.out.alloc (.cells #[.slice A n c, .int .i64 i, .bool false] 70))
            go_wp2_with fail
            refine (eye_certs_n (cap := c) (n := n) (zs := zs2) HL.out w.heap.size wc.heap.size (some i) (by omega) HZ.out _ (by omega) HE0.out (HO.out.below HS0.out.bl (Nat.le_refl _))).mono ?_
            rintro e v1 ⟨x1, vv, st1, rfl, hx1, hf, hown, he, ho⟩
            obtain ⟨A1, c1, rfl, _, _⟩ := OwnCerts.slice hown
            have HF := Lib.hid hf
            have HE1 := Lib.hid he
            have HS1 := Lib.hid (HS0.out.only ho hlt0)
            have d0 : v1.cell? ⟨w.heap.size, 0, none⟩ = some (.slice A n c) := HS1.out.ba.cell 0
            have d1 : v1.cell? ⟨w.heap.size + 1, 0, none⟩ = some (.int .i64 i) := HS1.out.bi.cell 0
            have HW1 := Lib.hid hown
            clear hf he ho hown
            go_wp2_with fail
            refine (take_certs_u (A := A) (cap := c) (i := i) (n := n) (zs := zs2) HL.out (by omega) (by omega) HZ.out _ HS1.out.bl.size (HO.out.below HS1.out.bl (Nat.le_refl _))).mono ?_
            rintro e v2 ⟨x2, A2, c2, k2, ok, rfl, hsaid, hk2, hx2, hown2, hb2⟩
            have HE2 := Lib.hid (HE1.out.below hb2 HE1.out.lt)
            have HS2 := Lib.hid (HS1.out.below hb2)
            have HR1 := Lib.hid (HW1.out.below hb2).has
            have HR2 := Lib.hid hown2.has
            have HSd := Lib.hid hsaid
            have hlt2 := HE2.out.lt
            clear hsaid hb2 hown2 d0 d1
            go_upto_region 24 with fail
            go_cut [209] (fun sc wx => sc = .bool false ∧ TkSt A n c i w wx)
            case first => as_aux_lemma =>
              rcases HSd.out with ⟨rfl, h1⟩ | ⟨rfl, h1, rfl, rfl⟩
              · obtain ⟨rfl, rfl⟩ := said_yes h1 HF.out
                obtain ⟨ce2, ce1⟩ := HE2.out.good
                have HSm := Lib.hid (tkCerts_small h1)
                clear h1
                go_wp2_with fail
                refine (same_certs_is rfl rfl (by omega) (sameL_true.2 rfl) HSm.out _ (Nat.le_refl _) HR2.out HR1.out).mono ?_
                rintro e v3 ⟨rfl, hb3⟩
                have ce3 := (HE2.out.below hb3 HE2.out.lt).good.2
                have HS3 := Lib.hid (HS2.out.below hb3)
                clear hb3
                go_wp2_with fail
                go_meet
                exact ⟨rfl, HS3.out⟩
              · obtain rfl := said_no h1 HF.out
                have ce2 := HE2.out.bad
                clear h1
                go_wp2_with fail
                go_meet
                exact ⟨rfl, HS2.out⟩
            case rest => as_aux_lemma =>
              obtain ⟨rfl, hS⟩ := hcut
              clear HE0 HE1 HE2 HS0 HS1 HS2 HF HSd HR1 HR2 HW1 hx1 hx2 hk2
              have HS := Lib.hid hS
              clear hS
              go_wp2_with fail
              refine (eye_new (.slice A n c) i w.heap.size (w.heap.size + 1) _ (HS.out.ba.cell 0) (HS.out.bi.cell 0) A n c rfl).mono ?_
              rintro e wn ⟨rfl, rfl⟩
              have hlt0 := HS.out.bi.lt
              have HE0 := Lib.hid (show EyeHas (wc.alloc (.cells #[.slice A n c, .int .i64 i, .bool false] 70)) wc.heap.size (.slice A n c) (some i) from ⟨i, false, Blk.new _ _ _, by omega, Or.inl ⟨rfl, rfl⟩⟩)
              have HS0 := Lib.hid (HS.out.alloc (.cells #[.slice A n c, .int .i64 i, .bool false] 70))
              go_wp2_with fail
              refine (eye_parts_n (cap := c) (n := n) (zs := zs2) HL.out w.heap.size wc.heap.size (some i) (by omega) HZ.out _ (by omega) HE0.out (HO.out.below HS0.out.bl (Nat.le_refl _))).mono ?_
              rintro e v1 ⟨x1, vv, st1, rfl, hx1, hf, hown, he, ho⟩
              obtain ⟨A1, c1, rfl, _, _⟩ := OwnParts.slice hown
              have HF := Lib.hid hf
              have HE1 := Lib.hid he
              have HS1 := Lib.hid (HS0.out.only ho hlt0)
              have d0 : v1.cell? ⟨w.heap.size, 0, none⟩ = some (.slice A n c) := HS1.out.ba.cell 0
              have d1 : v1.cell? ⟨w.heap.size + 1, 0, none⟩ = some (.int .i64 i) := HS1.out.bi.cell 0
              have HW1 := Lib.hid hown
              clear hf he ho hown
              go_wp2_with fail
              refine (take_parts_u (A := A) (cap := c) (i := i) (n := n) (zs := zs2) HL.out (by omega) (by omega) HZ.out _ HS1.out.bl.size (HO.out.below HS1.out.bl (Nat.le_refl _))).mono ?_
              rintro e v2 ⟨x2, A2, c2, k2, ok, rfl, hsaid, hk2, hx2, hown2, hb2⟩
              have HE2 := Lib.hid (HE1.out.below hb2 HE1.out.lt)
              have HS2 := Lib.hid (HS1.out.below hb2)
              have HR1 := Lib.hid (HW1.out.below hb2).has
              have HR2 := Lib.hid hown2.has
              have HSd := Lib.hid hsaid
              have hlt2 := HE2.out.lt
              clear hsaid hb2 hown2 d0 d1
              go_upto_region 29 with fail
              go_cut [254] (fun sc wx => sc = .bool false ∧ TkSt A n c i w wx)
              case first => as_aux_lemma =>
                rcases HSd.out with ⟨rfl, h1⟩ | ⟨rfl, h1, rfl, rfl⟩
                · obtain ⟨rfl, rfl⟩ := said_yes h1 HF.out
                  obtain ⟨ce2, ce1⟩ := HE2.out.good
                  have HSm := Lib.hid (tkParts_small h1)
                  clear h1
                  go_wp2_with fail
                  refine (same_parts_is2 rfl rfl (by omega) (sameL_true.2 rfl) HSm.out _ (Nat.le_refl _) HR2.out HR1.out).mono ?_
                  rintro e v3 ⟨rfl, hb3⟩
                  have ce3 := (HE2.out.below hb3 HE2.out.lt).good.2
                  have HS3 := Lib.hid (HS2.out.below hb3)
                  clear hb3
                  go_wp2_with fail
                  go_meet
                  exact ⟨rfl, HS3.out⟩
                · obtain rfl := said_no h1 HF.out
                  have ce2 := HE2.out.bad
                  clear h1
                  go_wp2_with fail
                  go_meet
                  exact ⟨rfl, HS2.out⟩
              case rest => as_aux_lemma =>
                obtain ⟨rfl, hS⟩ := hcut
                clear HE0 HE1 HE2 HS0 HS1 HS2 HF HSd HR1 HR2 HW1 hx1 hx2 hk2
                have HS := Lib.hid hS
                clear hS
                go_wp2_with fail
                refine (wakes_any _).mono ?_
                rintro e wz ⟨rfl, hbz⟩
                have HBZ := Lib.hid (HS.out.bl.trans (hbz.mono HS.out.bl.size))
                clear hbz
                go_wp2_with fail
                go_ret
                exact ⟨rfl, HBZ.out⟩

theorem packTakes_walk (A : Option Addr) (c : Nat) (zs : List Int) (i : Int) (w : World) (w0 : IsList .u8 w A zs c) (w1 : (Lit.int .i64 i).wf = true) :
    Calls Try.prog 9 #[.slice A zs.length c, .int .i64 i] w fun e w' => e = .returned (.bool true) ∧ Below w.heap.size w w' := by
  have hi := wf_i64 w1
  have hz : ∀ z ∈ zs, 0 ≤ z ∧ z ≤ 255 := fun z hz => wf_u8 (w0.fits z hz)
  have hc := w0.most
  have hl := w0.le
  have hh : Has w w.heap.size A (u8s zs) := w0.has
  unfold maxLen at hc
  obtain ⟨n, zs2, h1, h2, h3, h4, h5⟩ : ∃ (n : Nat) (zs2 : List Int), zs2.length = n ∧ n ≤ 600 ∧ (∀ z ∈ zs2, 0 ≤ z ∧ z ≤ 255) ∧ Has w w.heap.size A (u8s zs2) ∧ ((600 < zs.length ∧ n = 600) ∨ (zs.length ≤ 600 ∧ n = zs.length)) := by
    by_cases hlen : 600 < zs.length
    · exact ⟨600, zs.take 600, by rw [List.length_take]; omega, by omega, fun z hzz => hz z (List.mem_of_mem_take hzz), hh.take 600, Or.inl ⟨hlen, rfl⟩⟩
    · exact ⟨zs.length, zs, rfl, by omega, hz, hh, Or.inr ⟨by omega, rfl⟩⟩
  have hcap : n ≤ c := by omega
  by_cases hat : 700 < i
  · have h6 := Int.emod_nonneg i (show (700 : Int) ≠ 0 by omega)
    have h7 := Int.emod_lt_of_pos i (show (0 : Int) < 700 by omega)
    exact packTakes_core A c zs.length n zs2 i (i % 700) w h1 h2 hl hcap (by omega) h3 h4 (by omega) (by omega) h5 (Or.inl ⟨hat, hi.2, rfl⟩)
  · exact packTakes_core A c zs.length n zs2 i i w h1 h2 hl hcap (by omega) h3 h4 (by omega) hi.1 h5 (Or.inr ⟨by omega, rfl⟩)

end Go.Proofs.Ytkkaedcgpbjbmaa
