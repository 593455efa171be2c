/- The contracts of the document's own Eye for votes and for batches. -/
import Derived.Test.YtkkaedcgpbjbmaaEyeReq
namespace Go.Proofs.Ytkkaedcgpbjbmaa
open Go.RowKit

/-- What holds at the head of a list's loop. -/
def SeenRel {α : Type} (F : Tkr (List α)) (f : Tkr α) (own : World → Nat → Value → List α → Prop) (g : Nat) (X : Value) (st0 : Option Int) (w : World) (v x : Value) (wr : World) : Prop :=
  ∃ (n : Nat) (done : List α) (st : Option Int), x = .int .i64 n ∧ done.length + n ≤ 256 ∧ Only g w wr ∧ EyeHas wr g X st ∧ own wr w.heap.size v done ∧ Rest F f st0 st done n
/-- What a call of the Eye's for a list does. -/
def ListSeen {α : Type} (F : Tkr (List α)) (own : World → Nat → Value → List α → Prop) (g : Nat) (X : Value) (st : Option Int) (w : World) (e : Ending) (w' : World) : Prop :=
  ∃ (l : List α) (v : Value) (st' : Option Int), e = .returned v ∧ l.length ≤ 256 ∧ Eyed F st st' l ∧ own w' w.heap.size v l ∧ EyeHas w' g X st' ∧ Only g w w'
def OwnVotes (w : World) (b : Nat) (v : Value) (l : List Vt) : Prop := w.ownsRow b 43 2 v l.length (voteCells l)
def OwnReqs (w : World) (b : Nat) (v : Value) (l : List Rq) : Prop := w.ownsRow b 31 6 v l.length (reqCells l)
theorem eyed_vote {zs : List Int} {s0 s1 s2 : Option Int} {a0 a1 : Int} (h0 : Eyed (tkNum zs) s0 s1 a0) (h1 : Eyed (tkNum zs) s1 s2 a1) : Eyed (tkVote zs) s0 s2 ⟨a0, a1⟩ :=
  Eyed.bind (g := fun x0 j => (tkNum zs j).bind fun y1 => some ((⟨x0, y1.1⟩ : Vt), y1.2)) h0 (Eyed.bind (g := fun x1 j => some ((⟨a0, x1⟩ : Vt), j)) h1 (Eyed.pure (⟨a0, a1⟩ : Vt) s2))

set_option maxHeartbeats 2000000 in
set_option maxRecDepth 100000 in
theorem eye_votes (A : Option Addr) (cap : Nat) (zs : List Int) (B g : Nat) (st : Option Int) (hl : zs.length ≤ 9223372036854775806) (hz : ∀ z ∈ zs, 0 ≤ z ∧ z ≤ 255) (w : World) (hB : B ≤ g) (he : EyeHas w g (.slice A zs.length cap) st) (hh : Has w B A (u8s zs)) :
    Calls Try.prog 41 #[.pointer (some ⟨g, 0, none⟩)] w (ListSeen (tkVotes zs) OwnVotes g (.slice A zs.length cap) st w) := by
  have hg := he.lt
  obtain ⟨i0, hinf, hy0, hy1, hy2⟩ := info_parts Try.info43
  have HN := Lib.hid (fun w st he hh => eye_number A cap zs B g st hl hz w he hh)
  have HH := Lib.hid hh
  have HLn := Lib.hid (eye_list A cap zs B g st hl hz w he hh)
  clear he hh hz hl
  go_enter Try.func41, Try.ntmps41
  go_wp2_with fail
  refine HLn.out.mono ?_
  rintro e w1 ⟨n, st1, rfl, hn, hf, he, ho, hsz⟩
  have HR0 : Hid (SeenRel (tkVotes zs) (tkVote zs) OwnVotes g (.slice A zs.length cap) st w (.slice none 0 0) (.int .i64 n) w1) := ⟨n, [], st1, rfl, by simpa using hn, ho, he, World.ownsRow_nil _ _ _ _, Rest.start hf⟩
  clear hf he ho
  go_wp2_with fail
  go_loopw [3, 4] (fun v x wr => SeenRel (tkVotes zs) (tkVote zs) OwnVotes g (.slice A zs.length cap) st w v x wr) (fun _ x _ => (intOf x).toNat)
  case atStart => exact HR0.out
  case round =>
    obtain ⟨n, done, st1, rfl, hn, ho, he, hown, hrest⟩ := hrel
    have hbs := ho.size
    cases st1 with
    | none =>
      have ce := he.bad
      obtain ⟨A2, c2, rfl, _, _⟩ := own_slice hown
      have HE : Hid (ListSeen (tkVotes zs) OwnVotes g (.slice A zs.length cap) st w (.returned (.slice A2 done.length c2)) wr) := ⟨done, _, none, rfl, by omega, Rest.bad hrest, hown, he, ho⟩
      clear he ho hown hrest
      by_cases hn0 : n = 0
      · subst hn0
        go_wp2_with fail
        go_ret
        exact HE.out
      · have hpos : (0 : Int) < (n : Int) := by omega
        go_wp2_with fail
        go_ret
        exact HE.out
    | some q =>
      have ce := he.good.1
      by_cases hn0 : n = 0
      · subst hn0
        obtain ⟨A2, c2, rfl, _, _⟩ := own_slice hown
        have HE : Hid (ListSeen (tkVotes zs) OwnVotes g (.slice A zs.length cap) st w (.returned (.slice A2 done.length c2)) wr) := ⟨done, _, some q, rfl, by omega, Rest.end_ hrest, hown, he, ho⟩
        clear he ho hown hrest
        go_wp2_with fail
        go_ret
        exact HE.out
      · obtain ⟨m, hm⟩ : ∃ m, n = m + 1 := ⟨n - 1, by omega⟩
        have hpos : (0 : Int) < (n : Int) := by omega
        have hx : (n : Int) - 1 = (m : Int) := by omega
        have hmn : done.length + 1 + m ≤ 256 := by omega
        have hmm : m < n := by omega
        rw [hm] at hrest
        have HRe := Lib.hid hrest
        have HM := Lib.hid hmn
        clear hrest hm
        have hE0 := Eyg.new (T := 43) (s := 2) ho he hown hg #[.int .i64 0, .int .i64 0]
        have HE0 := Lib.hid hE0
        clear ho he hown hE0
        go_wp2_with fail
        refine (HN.out _ _ HE0.out.eye (HE0.out.only.hasB hB HH.out)).mono ?_
        rintro e w2 ⟨n0, s1, rfl, hf, he, ho, -, _, _⟩
        have HF0 := Lib.hid hf
        have hc0 := HE0.out.call ho he
        have fr0 := hc0.frozen 0
        have ce0 : w2.cell? ⟨wr.heap.size, 0, none⟩ = some (.int .i64 0) := hc0.cell 0
        have HE1 := Lib.hid (hc0.set_ 0 (.int .i64 n0))
        clear hf he ho hc0
        go_wp2_with fail
        refine (HN.out _ _ HE1.out.eye (HE1.out.only.hasB hB HH.out)).mono ?_
        rintro e w3 ⟨n1, s2, rfl, hf, he, ho, -, _, _⟩
        have HF1 := Lib.hid hf
        have hc1 := HE1.out.call ho he
        have fr1 := hc1.frozen 1
        have ce10 : w3.cell? ⟨wr.heap.size, 0, none⟩ = some (.int .i64 n0) := hc1.cell 0
        have ce11 : w3.cell? ⟨wr.heap.size, 1, none⟩ = some (.int .i64 0) := hc1.cell 1
        have HE2 := Lib.hid (hc1.set_ 1 (.int .i64 n1))
        have hs3 := hc1.only.size
        clear hf he ho hc1
        go_wp2_with (at_builtin; refine wpList_append_own _ rfl (.tmp 26) (.tmp 28) 36 rfl w.heap.size 43 i0 _ 2 16 Try.underlying36 hinf hy0 hy1 hy2 rfl (by decide) _ _ _ rfl (HE2.out.row.alloc _) ⟨w3.heap.size, 0, none⟩ 1 1 [.int .i64 n0, .int .i64 n1] rfl rfl ?c1 ?c2 ?c3 ?c4 ?c5 ?_)
        case c1 => exact World.news_of_block (cs := #[.int .i64 n0, .int .i64 n1]) (by simpa using heap_alloc_new (w3.setCell ⟨wr.heap.size, 1, none⟩ (.int .i64 n1)) (.cells #[.int .i64 n0, .int .i64 n1] 43))
        case c2 => intro u hu; simp at hu; rcases hu with rfl | rfl <;> rfl
        case c3 => unfold maxLen; omega
        case c4 => omega
        case c5 => simp; omega
        intro L2 w4 ho4 hg4 _
        have HNx : Hid (SeenRel (tkVotes zs) (tkVote zs) OwnVotes g (.slice A zs.length cap) st w L2 (.int .i64 m) w4) := ⟨m, done ++ [⟨n0, n1⟩], s2, rfl, by have := HM.out; simp; omega, (HE2.out.app hg4).1, (HE2.out.app hg4).2, show OwnVotes _ _ _ (done ++ [⟨n0, n1⟩]) from votes_more (v := ⟨n0, n1⟩) ho4, Rest.step HRe.out (eyed_vote HF0.out HF1.out)⟩
        clear ce ce0 ce10 ce11 fr0 fr1
        clear ho4 hg4
        go_wp2_with fail
        go_roundw
        case rel => exact HNx.out
        case measure => simp [intOf]; omega

set_option maxHeartbeats 2000000 in
set_option maxRecDepth 100000 in
theorem eye_batch (A : Option Addr) (cap : Nat) (zs : List Int) (B g : Nat) (st : Option Int) (hl : zs.length ≤ 9223372036854775806) (hz : ∀ z ∈ zs, 0 ≤ z ∧ z ≤ 255) (w : World) (hB : B ≤ g) (he : EyeHas w g (.slice A zs.length cap) st) (hh : Has w B A (u8s zs)) :
    Calls Try.prog 40 #[.pointer (some ⟨g, 0, none⟩)] w (ListSeen (tkBatch zs) OwnReqs g (.slice A zs.length cap) st w) := by
  have hg := he.lt
  obtain ⟨i0, hinf, hy0, hy1, hy2⟩ := info_parts Try.info31
  have HN := Lib.hid (fun w st he hh => eye_req A cap zs B g st hl hz w hB he hh)
  have HH := Lib.hid hh
  have HLn := Lib.hid (eye_list A cap zs B g st hl hz w he hh)
  clear he hh hz hl
  go_enter Try.func40, Try.ntmps40
  go_wp2_with fail
  refine HLn.out.mono ?_
  rintro e w1 ⟨n, st1, rfl, hn, hf, he, ho, hsz⟩
  have HR0 : Hid (SeenRel (tkBatch zs) (tkReq zs) OwnReqs g (.slice A zs.length cap) st w (.slice none 0 0) (.int .i64 n) w1) := ⟨n, [], st1, rfl, by simpa using hn, ho, he, World.ownsRow_nil _ _ _ _, Rest.start hf⟩
  clear hf he ho
  go_wp2_with fail
  go_loopw [3, 4] (fun v x wr => SeenRel (tkBatch zs) (tkReq zs) OwnReqs g (.slice A zs.length cap) st w v x wr) (fun _ x _ => (intOf x).toNat)
  case atStart => exact HR0.out
  case round =>
    obtain ⟨n, done, st1, rfl, hn, ho, he, hown, hrest⟩ := hrel
    have hbs := ho.size
    cases st1 with
    | none =>
      have ce := he.bad
      obtain ⟨A2, c2, rfl, _, _⟩ := own_slice hown
      have HE : Hid (ListSeen (tkBatch zs) OwnReqs g (.slice A zs.length cap) st w (.returned (.slice A2 done.length c2)) wr) := ⟨done, _, none, rfl, by omega, Rest.bad hrest, hown, he, ho⟩
      clear he ho hown hrest
      by_cases hn0 : n = 0
      · subst hn0
        go_wp2_with fail
        go_ret
        exact HE.out
      · have hpos : (0 : Int) < (n : Int) := by omega
        go_wp2_with fail
        go_ret
        exact HE.out
    | some q =>
      have ce := he.good.1
      by_cases hn0 : n = 0
      · subst hn0
        obtain ⟨A2, c2, rfl, _, _⟩ := own_slice hown
        have HE : Hid (ListSeen (tkBatch zs) OwnReqs g (.slice A zs.length cap) st w (.returned (.slice A2 done.length c2)) wr) := ⟨done, _, some q, rfl, by omega, Rest.end_ hrest, hown, he, ho⟩
        clear he ho hown hrest
        go_wp2_with fail
        go_ret
        exact HE.out
      · obtain ⟨m, hm⟩ : ∃ m, n = m + 1 := ⟨n - 1, by omega⟩
        have hpos : (0 : Int) < (n : Int) := by omega
        have hx : (n : Int) - 1 = (m : Int) := by omega
        have hmn : done.length + 1 + m ≤ 256 := by omega
        have hmm : m < n := by omega
        rw [hm] at hrest
        have HRe := Lib.hid hrest
        have HM := Lib.hid hmn
        clear hrest hm
        have HE := Lib.hid he
        have HO := Lib.hid ho
        have HOw := Lib.hid hown
        clear ho he hown
        go_wp2_with fail
        refine (HN.out _ _ HE.out (HO.out.hasB hB HH.out)).mono ?_
        rintro e w2 ⟨r, s1, rfl, hf, he, ho2⟩
        have HF0 := Lib.hid hf
        have HE2 := Lib.hid he
        have HO2 := Lib.hid (HO.out.trans ho2)
        have HOw2 := Lib.hid (ho2.own HOw.out (own_blk_lt HOw.out hg))
        have hs2 := (HO.out.trans ho2).size
        clear hf he ho2
        go_wp2_with (at_builtin; refine wpList_append_own _ rfl (.tmp 18) (.tmp 21) 22 rfl w.heap.size 31 i0 _ 6 48 Try.underlying22 hinf hy0 hy1 hy2 rfl (by decide) _ _ _ rfl (HOw2.out.alloc _) ⟨w2.heap.size, 0, none⟩ 1 1 [.int .i64 r.cl, .int .i64 r.tm, .int .i64 r.kd, .int .i64 r.ky, .int .i64 r.vl, .int .i64 r.sg] rfl rfl ?c1 ?c2 ?c3 ?c4 ?c5 ?_)
        case c1 => exact World.news_of_block (cs := #[.int .i64 r.cl, .int .i64 r.tm, .int .i64 r.kd, .int .i64 r.ky, .int .i64 r.vl, .int .i64 r.sg]) (heap_alloc_new w2 (.cells #[.int .i64 r.cl, .int .i64 r.tm, .int .i64 r.kd, .int .i64 r.ky, .int .i64 r.vl, .int .i64 r.sg] 31))
        case c2 => intro u hu; simp at hu; rcases hu with rfl | rfl | rfl | rfl | rfl | rfl <;> rfl
        case c3 => unfold maxLen; omega
        case c4 => omega
        case c5 => simp; omega
        intro L2 w4 ho4 hg4 _
        have HNx : Hid (SeenRel (tkBatch zs) (tkReq zs) OwnReqs g (.slice A zs.length cap) st w L2 (.int .i64 m) w4) := ⟨m, done ++ [r], s1, rfl, by have := HM.out; simp; omega, (HO2.out.alloc _).grown hg4 (fun k hk => Or.inl (HOw2.out.lt k hk).1), (HE2.out.alloc _).grown hg4 (fun he => own_blk_lt HOw2.out hg he.symm), show OwnReqs _ _ _ (done ++ [r]) from batch_more (v := r) ho4, Rest.step HRe.out HF0.out⟩
        clear ce
        clear ho4 hg4
        go_wp2_with fail
        go_roundw
        case rel => exact HNx.out
        case measure => simp [intOf]; omega

end Go.Proofs.Ytkkaedcgpbjbmaa
