/- The walk of PropDrops: it returns true for any acts and ints. -/
import Derived.Test.YtbpefdnlldpjiaaPropClone
import Derived.Test.YtbpefdnlldpjiaaActs13
import Derived.Test.YtbpefdnlldpjiaaRefRows
namespace Go.Proofs.Ytbpefdnlldpjiaa
open Go.RowKit Go.Sort
set_option linter.unusedSimpArgs false

/-- A row of another type is as it was. -/
theorem TbPost.farRow {w w' : World} {tb b m s : Nat} {v v1 : Value} {f n : Int} {L L' : List Tr} {t : TypeId} {xs : List Value} (hp : TbPost w tb v f n L' w') (h : Tb w tb v f n L) (ho : w.ownsRow b t s v1 m xs) (h1 : t ≠ 64) (h2 : t ≠ 70) : w'.ownsRow b t s v1 m xs := by
  obtain ⟨v', _, _, ht⟩ := hp
  refine ht.own ho fun g hg => ?_
  rcases ho.2 with ⟨rfl, _⟩ | ⟨g', cap, cur, rfl, _, hh, _⟩
  · cases hg
  · have : g' = g := Option.some.inj hg
    subst this
    exact h.off (show Blk w g' t cur from hh) h1 h2
/-- What lay there when the call came is as it was. -/
theorem Rt.arg {w wr wz : World} {tb : Nat} {v : Value} {f n : Int} {L L' : List Tr} (h : Rt w tb v f n L wr) (hp : TbPost wr tb v f n L' wz) {k : Nat} (hk : k < w.heap.size) : wz.heap[k]? = wr.heap[k]? := by
  obtain ⟨v', _, _, ht⟩ := hp
  refine ht.block k (Nat.lt_of_lt_of_le hk h.low.size) fun hz => ?_
  rcases hz with rfl | hz
  · have := h.lt; omega
  · have := h.lg k hz; omega
theorem has_of_own {w : World} {b n c s : Nat} {e : TypeId} {A : Option Addr} {xs : List Value} (h : w.ownsRow b e s (.slice A n c) n xs) : Has w w.heap.size A xs := has_rows h
def delR (c t : Int) (r : Rq) : Bool := decide (r.cl = c) && decide (r.tm ≤ t)
theorem drop_rqs (L : List Tr) (c t : Int) : rqs (dropT L c t) = (rqs L).filter fun r => !delR c t r := by
  unfold rqs dropT
  rw [List.filter_map]
  rfl
theorem drop_again (L : List Tr) (c t : Int) : dropT (dropT L c t) c t = dropT L c t := by
  unfold dropT
  rw [List.filter_filter]
  congr 1
  funext x
  simp
/-- Where the second pointer stands: the next one that is kept is its. -/
theorem kept_next {R : List Rq} {p : Rq → Bool} {i : Nat} {r : Rq} (h : R[i]? = some r) (hp : p r = true) : (R.filter p)[((R.take i).filter p).length]? = some r ∧ ((R.take (i + 1)).filter p).length = ((R.take i).filter p).length + 1 := by
  constructor
  · have h1 : R = R.take i ++ (r :: R.drop (i + 1)) := by
      obtain ⟨hi, e⟩ := List.getElem?_eq_some_iff.1 h
      rw [← e, ← List.drop_eq_getElem_cons hi, List.take_append_drop]
    have h2 : R.filter p = (R.take i).filter p ++ r :: (R.drop (i + 1)).filter p := by
      have h3 := congrArg (List.filter p) h1
      rwa [List.filter_append, List.filter_cons, if_pos hp] at h3
    rw [h2, List.getElem?_append_right (Nat.le_refl _), Nat.sub_self]
    rfl
  · rw [List.take_add_one, h, List.filter_append]
    simp [hp]
theorem gone_next {R : List Rq} {p : Rq → Bool} {i : Nat} {r : Rq} (h : R[i]? = some r) (hp : p r = false) : ((R.take (i + 1)).filter p).length = ((R.take i).filter p).length := by
  rw [List.take_add_one, h, List.filter_append]
  simp [hp]
set_option maxRecDepth 100000 in
set_option maxHeartbeats 4000000 in
theorem propDrops_walk (A : Option Addr) (c : Nat) (l : List Ac) (cl tm : Int) (w : World) (w0 : IsActs w A l c) (_ : (Lit.int .i64 cl).wf = true) (_ : (Lit.int .i64 tm).wf = true) :
    Calls Try.prog 7 #[.slice A l.length c, .int .i64 cl, .int .i64 tm] w fun e w' => e = .returned (.bool true) ∧ Below w.heap.size w w' := by
  have HL := Lib.hid w0
  obtain ⟨n, hn⟩ : ∃ n, l.length = n := ⟨_, rfl⟩
  have HN := Lib.hid hn
  simp only [hn]
  clear w0 hn
  go_enter Try.func7, Try.ntmps7
  go_wp2_with fail
  refine (rt_new (f := 1) (n := 3) (by omega) (by omega) (by omega) (by omega) w _ (Below.refl _ _)).mono ?_
  rintro e w2 ⟨tb, rfl, hR, -, -⟩
  have HR := Lib.hid hR
  clear hR
  go_wp2_with fail
  go_loopw [9] (fun xi wr => ∃ (i : Nat) (v : Value) (L : List Tr), xi = .int .i64 i ∧ i ≤ n ∧ i ≤ 60 ∧ Hid (Rt w tb v 1 3 L wr)) (fun xi _ => n - (intOf xi).toNat)
  case atStart => exact ⟨0, _, [], rfl, Nat.zero_le _, Nat.zero_le _, HR⟩
  case round =>
    obtain ⟨i, v, L, rfl, hi, hi60, HS⟩ := hrel
    by_cases hlt : i < n ∧ i < 60
    · obtain ⟨hlt1, hlt2⟩ := hlt
      have hil : i < l.length := by rw [HN.out]; exact hlt1
      obtain ⟨ad, rfl, hab, hA⟩ := act_at (HS.out.has HL.out.has) hil
      obtain ⟨x, hx⟩ : ∃ x, l[i] = x := ⟨_, rfl⟩
      rw [hx] at hA
      have HAt := Lib.hid hA
      have HS1 := Lib.hid (HS.out.drewN 1)
      have HPut := Lib.hid ((pput_any (w := wr.drew) HS1.out.tab x.r x.nd x.ck).mono (R' := fun e w' => ∃ b1 b2 e3, e = .returned (.tuple #[.bool b1, .bool b2, .int .i64 e3]) ∧ TbPost wr.drew tb v 1 3 (putT 1 3 L x.r x.nd x.ck).2 w') fun _ _ he => ⟨_, _, _, he.1, he.2⟩)
      have HK := Lib.hid (fun (wz : World) (hb : wz.heap[(ad.add (i * 11)).block]? = wr.heap[(ad.add (i * 11)).block]?) => show (wz.cell? ⟨(ad.add (i * 11)).block, (ad.add (i * 11)).off + 1, none⟩ = some (.int .i64 x.nd) ∧ wz.cell? ⟨(ad.add (i * 11)).block, (ad.add (i * 11)).off + 2, none⟩ = some (.int .i64 x.ck) ∧ wz.cell? ⟨(ad.add (i * 11)).block, (ad.add (i * 11)).off + 5, none⟩ = some (.int .i64 x.r.cl) ∧ wz.cell? ⟨(ad.add (i * 11)).block, (ad.add (i * 11)).off + 6, none⟩ = some (.int .i64 x.r.tm) ∧ wz.cell? ⟨(ad.add (i * 11)).block, (ad.add (i * 11)).off + 7, none⟩ = some (.int .i64 x.r.kd) ∧ wz.cell? ⟨(ad.add (i * 11)).block, (ad.add (i * 11)).off + 8, none⟩ = some (.int .i64 x.r.ky) ∧ wz.cell? ⟨(ad.add (i * 11)).block, (ad.add (i * 11)).off + 9, none⟩ = some (.int .i64 x.r.vl) ∧ wz.cell? ⟨(ad.add (i * 11)).block, (ad.add (i * 11)).off + 10, none⟩ = some (.int .i64 x.r.sg)) from by
        have q := HAt.out.back hb
        exact ⟨q.c1, q.c2, q.c5, q.c6, q.c7, q.c8, q.c9, q.c10⟩)
      have HAb := Lib.hid (show (ad.add (i * 11)).block < w.heap.size by rw [addr_block]; exact hab)
      have hq1 := HK.out wr.drew rfl
      have HNext := Lib.hid (fun (wz : World) (hp : TbPost wr.drew tb v 1 3 (putT 1 3 L x.r x.nd x.ck).2 wz) => HS1.out.post hp)
      have HArg := Lib.hid (fun (wz : World) (hp : TbPost wr.drew tb v 1 3 (putT 1 3 L x.r x.nd x.ck).2 wz) => HK.out wz (Rt.arg HS1.out hp HAb.out))
      have hlt3 : (i : Int) < (n : Int) := by omega
      have hlt4 : (i : Int) < 60 := by omega
      have c1 := hA.c1
      have c2 := hA.c2
      have c5 := hA.c5
      have c6 := hA.c6
      have c7 := hA.c7
      have c8 := hA.c8
      have c9 := hA.c9
      have c10 := hA.c10
      clear hx hil hab hA
      go_wp2_with fail
      go_region_held3 (fun w' => w'.cell? ⟨(ad.add (i * 11)).block, (ad.add (i * 11)).off + 1, none⟩ = some (.int .i64 x.nd) ∧ w'.cell? ⟨(ad.add (i * 11)).block, (ad.add (i * 11)).off + 2, none⟩ = some (.int .i64 x.ck) ∧ w'.cell? ⟨(ad.add (i * 11)).block, (ad.add (i * 11)).off + 5, none⟩ = some (.int .i64 x.r.cl) ∧ w'.cell? ⟨(ad.add (i * 11)).block, (ad.add (i * 11)).off + 6, none⟩ = some (.int .i64 x.r.tm) ∧ w'.cell? ⟨(ad.add (i * 11)).block, (ad.add (i * 11)).off + 7, none⟩ = some (.int .i64 x.r.kd) ∧ w'.cell? ⟨(ad.add (i * 11)).block, (ad.add (i * 11)).off + 8, none⟩ = some (.int .i64 x.r.ky) ∧ w'.cell? ⟨(ad.add (i * 11)).block, (ad.add (i * 11)).off + 9, none⟩ = some (.int .i64 x.r.vl) ∧ w'.cell? ⟨(ad.add (i * 11)).block, (ad.add (i * 11)).off + 10, none⟩ = some (.int .i64 x.r.sg)) (first | exact hq1 | exact hq2 | go_keep)
        ((go_at_call 12; refine HPut.out.mono ?_; rintro e w3 ⟨p1, p2, p3, rfl, hp⟩; have HP := Lib.hid hp; clear hp; have hq2 := HArg.out _ HP.out))
      obtain ⟨v3, hS3⟩ := HNext.out _ HP.out
      have HS3 := Lib.hid hS3
      clear HP hq1 hq2 hS3 c1 c2 c5 c6 c7 c8 c9 c10
      go_wp2_with fail
      go_roundw
      case rel => exact ⟨i + 1, v3, _, by go_num, by omega, by omega, HS3⟩
      case measure => simp [intOf]; omega
    · have HAl := Lib.hid (pall_any HS.out.tab)
      by_cases h1 : i < n
      · have h2 : i = 60 := by omega
        subst h2
        clear hlt
        go_wp2_with fail
        refine HAl.out.mono ?_
        rintro e w4 ⟨va, rfl, hoa, hba⟩
        have HSa := Lib.hid (HS.out.below hba)
        have HOa := Lib.hid hoa
        clear hoa hba
        obtain ⟨Aa, ca, rfl, -, -⟩ := own_slice HOa.out
        have HDr := Lib.hid (pdrop_any HSa.out.tab cl tm)
        go_wp2_with fail
        refine HDr.out.mono ?_
        rintro e w5 ⟨rfl, hp⟩
        have HOa5 := Lib.hid (hp.farRow HSa.out.tab HOa.out (by decide) (by decide))
        obtain ⟨v5, hr5⟩ := HSa.out.post hp
        have HS5 := Lib.hid hr5
        clear hp hr5
        have HAl2 := Lib.hid (pall_any HS5.out.tab)
        go_wp2_with fail
        refine HAl2.out.mono ?_
        rintro e w6 ⟨vb, rfl, hob, hbb⟩
        have HS6 := Lib.hid (HS5.out.below hbb)
        obtain ⟨Ab, cb, rfl, -, -⟩ := own_slice hob
        have HOb := Lib.hid (has_of_own hob)
        have HOa6 := Lib.hid (has_of_own (below_own HOa5.out hbb (Nat.le_refl _)))
        clear hob hbb
        have HDd := Lib.hid (drop_again L cl tm)
        have HDq := Lib.hid (drop_rqs L cl tm)
        have HSz := Lib.hid (show (rqs L).length ≤ 16 ∧ (rqs (dropT L cl tm)).length ≤ (rqs L).length from ⟨by rw [rqs_len]; exact HSa.out.tab.ok.most, by rw [rqs_len, rqs_len]; exact List.length_filter_le _ _⟩)
        obtain ⟨d, hd⟩ : ∃ d : Int, (L.length : Int) - ((dropT L cl tm).length : Int) = d := ⟨_, rfl⟩
        have HD := Lib.hid (show ((rqs L).length : Int) - ((rqs (dropT L cl tm)).length : Int) = d by rw [rqs_len, rqs_len]; exact hd)
        have HLn := Lib.hid (rqs_len (dropT L cl tm))
        simp only [hd]
        clear hd
        obtain ⟨D, hD⟩ : ∃ D, dropT L cl tm = D := ⟨_, rfl⟩
        rw [hD] at HS6 HOb HDd HDq HSz HD HLn ⊢
        clear hD
        obtain ⟨R, hR⟩ : ∃ R, rqs L = R := ⟨_, rfl⟩
        rw [hR] at HOa6 HDq HSz HD ⊢
        clear hR
        obtain ⟨N, hN⟩ : ∃ N, rqs D = N := ⟨_, rfl⟩
        rw [hN] at HOb HDq HSz HD HLn ⊢
        clear hN
        obtain ⟨rl, hrl⟩ : ∃ m, R.length = m := ⟨_, rfl⟩
        rw [hrl] at HSz HD ⊢
        have HRl := Lib.hid hrl
        obtain ⟨nl, hnl⟩ : ∃ m, N.length = m := ⟨_, rfl⟩
        rw [hnl] at HSz HD HLn ⊢
        have HNl := Lib.hid hnl
        clear hrl hnl
        have hrl16 := HSz.out.1
        have hnl16 := HSz.out.2
        go_wp2_with fail
        go_loopw [13, 14, 63] (fun xk xg xi wr => ∃ (k g i : Nat) (nq : Nat), xk = .int .i64 k ∧ xg = .int .i64 g ∧ xi = .int .i64 i ∧ i ≤ rl ∧ k + g = i ∧ Hid (wr = w6.drewN nq) ∧ Hid (k = ((R.take i).filter fun r => !delR cl tm r).length)) (fun _ _ xi _ => rl - (intOf xi).toNat)
        case atStart => exact ⟨0, 0, 0, 0, rfl, rfl, rfl, Nat.zero_le _, rfl, rfl, rfl⟩
        case round =>
          obtain ⟨k, g, i, nq, rfl, rfl, rfl, hi, hkg, HW, HK⟩ := hrel
          by_cases hlt : i < rl
          · have hiR : i < R.length := by rw [HRl.out]; exact hlt
            have HX := Lib.hid (show R[i]? = some R[i] from List.getElem?_eq_getElem hiR)
            have hha : Has wr w6.heap.size Aa (reqCells R) := by rw [HW.out]; exact HOa6.out
            obtain ⟨a1, rfl, _, c0, c1, c2, c3, c4, c5⟩ := hha.req hiR
            obtain ⟨x, hx⟩ : ∃ x, R[i] = x := ⟨_, rfl⟩
            rw [hx] at HX c0 c1 c2 c3 c4 c5
            have hii : (i : Int) < (rl : Int) := by omega
            clear hx hha
            cases hd : delR cl tm x
            · have hd1 : delR cl tm x = false := hd
              obtain ⟨hn1, hn2⟩ := kept_next (p := fun r => !delR cl tm r) HX.out (by rw [hd]; rfl)
              rw [← HDq.out, ← HK.out] at hn1
              rw [← HK.out] at hn2
              have HK2 := Lib.hid hn2.symm
              obtain ⟨hkN, hxN⟩ := List.getElem?_eq_some_iff.1 hn1
              have hhb : Has wr w6.heap.size Ab (reqCells N) := by rw [HW.out]; exact HOb.out
              obtain ⟨a2, rfl, _, d0, d1, d2, d3, d4, d5⟩ := hhb.req hkN
              rw [hxN] at d0 d1 d2 d3 d4 d5
              have hkl : k < nl := by rw [← HNl.out]; exact hkN
              have hkk : (k : Int) < (nl : Int) := by omega
              have E := fun (w : World) => neq_req (x := x) (y := x) (r := false) (by simp) w
              have G := fun (w : World) => guard_req .neq (.tmp 92) (.tmp 96) #[.int .i64 x.cl, .int .i64 x.tm, .int .i64 x.kd, .int .i64 x.ky, .int .i64 x.vl, .int .i64 x.sg] #[.int .i64 x.cl, .int .i64 x.tm, .int .i64 x.kd, .int .i64 x.ky, .int .i64 x.vl, .int .i64 x.sg] w
              have gk : decide ((nl : Int) ≤ (k : Int)) = false := decide_eq_false (by omega)
              have gk2 : decide (nl ≤ k) = false := decide_eq_false (by omega)
              clear hn1 hn2 hkN hxN hhb hd hiR
              by_cases hcl : x.cl = cl
              · have g1 : (x.cl == cl) = true := by simpa using hcl
                have g2 : decide (x.tm ≤ tm) = false := by
                  unfold delR at hd1
                  rw [decide_eq_true hcl, Bool.true_and] at hd1
                  exact hd1
                clear hcl hd1
                go_wp2_with fail
                go_quiet (fail)
                go_wp2_with fail
                go_roundw
                case rel => exact ⟨k + 1, g, i + 1, _, by go_num, rfl, by go_num, by omega, by omega, (show _ = w6.drewN _ by rw [HW.out, World.drewN_drewN]), HK2.out⟩
                case measure => simp [intOf]; omega
              · have g1 : (x.cl == cl) = false := by simpa using hcl
                clear hcl hd1
                go_wp2_with fail
                go_quiet (fail)
                go_wp2_with fail
                go_roundw
                case rel => exact ⟨k + 1, g, i + 1, _, by go_num, rfl, by go_num, by omega, by omega, (show _ = w6.drewN _ by rw [HW.out, World.drewN_drewN]), HK2.out⟩
                case measure => simp [intOf]; omega
            · have HK2 := Lib.hid (show k = ((R.take (i + 1)).filter fun r => !delR cl tm r).length from HK.out.trans (gone_next (p := fun r => !delR cl tm r) HX.out (by rw [hd]; rfl)).symm)
              have hd2 : (x.cl == cl) = true ∧ decide (x.tm ≤ tm) = true := by
                unfold delR at hd
                simpa using hd
              obtain ⟨g1, g2⟩ := hd2
              clear hd hiR
              go_wp2_with fail
              go_roundw
              case rel => exact ⟨k, g + 1, i + 1, _, rfl, by go_num, by go_num, by omega, by omega, HW, HK2.out⟩
              case measure => simp [intOf]; omega
          · obtain rfl : i = rl := by omega
            have hk : k = nl := by
              have := HK.out
              rw [List.take_of_length_le (by rw [HRl.out]; exact Nat.le_refl _), ← HDq.out, HNl.out] at this
              exact this
            subst hk
            have gg : ((g : Int) == d) = true := by have := HD.out; simp; omega
            have HS7 := Lib.hid (show Rt w tb v5 1 3 D wr by rw [HW.out]; exact HS6.out.drewN nq)
            have HDr2 := Lib.hid (pdrop_any HS7.out.tab cl tm)
            rw [HDd.out, Int.sub_self] at HDr2
            have HPost := Lib.hid (fun wz (hp : TbPost wr tb v5 1 3 D wz) => HS7.out.post hp)
            go_wp2_with fail
            refine HDr2.out.mono ?_
            rintro e w8 ⟨rfl, hp⟩
            obtain ⟨v8, hr8⟩ := HPost.out _ hp
            have HS8 := Lib.hid hr8
            clear hp hr8
            have HLe := Lib.hid (plen_any HS8.out.tab)
            rw [← HLn.out] at HLe
            go_wp2_with fail
            refine HLe.out.mono ?_
            rintro e w9 ⟨rfl, rfl⟩
            go_wp2_with fail
            refine (wakes13_any _).mono ?_
            rintro e w10 ⟨rfl, hb10⟩
            have HS9 := Lib.hid (HS8.out.below hb10)
            clear hb10
            go_wp2_with fail
            go_ret
            exact ⟨rfl, HS9.out.low⟩
      · have h2 : decide ((i : Int) < (n : Int)) = false := decide_eq_false (by omega)
        clear hlt
        go_wp2_with fail
        refine HAl.out.mono ?_
        rintro e w4 ⟨va, rfl, hoa, hba⟩
        have HSa := Lib.hid (HS.out.below hba)
        have HOa := Lib.hid hoa
        clear hoa hba
        obtain ⟨Aa, ca, rfl, -, -⟩ := own_slice HOa.out
        have HDr := Lib.hid (pdrop_any HSa.out.tab cl tm)
        go_wp2_with fail
        refine HDr.out.mono ?_
        rintro e w5 ⟨rfl, hp⟩
        have HOa5 := Lib.hid (hp.farRow HSa.out.tab HOa.out (by decide) (by decide))
        obtain ⟨v5, hr5⟩ := HSa.out.post hp
        have HS5 := Lib.hid hr5
        clear hp hr5
        have HAl2 := Lib.hid (pall_any HS5.out.tab)
        go_wp2_with fail
        refine HAl2.out.mono ?_
        rintro e w6 ⟨vb, rfl, hob, hbb⟩
        have HS6 := Lib.hid (HS5.out.below hbb)
        obtain ⟨Ab, cb, rfl, -, -⟩ := own_slice hob
        have HOb := Lib.hid (has_of_own hob)
        have HOa6 := Lib.hid (has_of_own (below_own HOa5.out hbb (Nat.le_refl _)))
        clear hob hbb
        have HDd := Lib.hid (drop_again L cl tm)
        have HDq := Lib.hid (drop_rqs L cl tm)
        have HSz := Lib.hid (show (rqs L).length ≤ 16 ∧ (rqs (dropT L cl tm)).length ≤ (rqs L).length from ⟨by rw [rqs_len]; exact HSa.out.tab.ok.most, by rw [rqs_len, rqs_len]; exact List.length_filter_le _ _⟩)
        obtain ⟨d, hd⟩ : ∃ d : Int, (L.length : Int) - ((dropT L cl tm).length : Int) = d := ⟨_, rfl⟩
        have HD := Lib.hid (show ((rqs L).length : Int) - ((rqs (dropT L cl tm)).length : Int) = d by rw [rqs_len, rqs_len]; exact hd)
        have HLn := Lib.hid (rqs_len (dropT L cl tm))
        simp only [hd]
        clear hd
        obtain ⟨D, hD⟩ : ∃ D, dropT L cl tm = D := ⟨_, rfl⟩
        rw [hD] at HS6 HOb HDd HDq HSz HD HLn ⊢
        clear hD
        obtain ⟨R, hR⟩ : ∃ R, rqs L = R := ⟨_, rfl⟩
        rw [hR] at HOa6 HDq HSz HD ⊢
        clear hR
        obtain ⟨N, hN⟩ : ∃ N, rqs D = N := ⟨_, rfl⟩
        rw [hN] at HOb HDq HSz HD HLn ⊢
        clear hN
        obtain ⟨rl, hrl⟩ : ∃ m, R.length = m := ⟨_, rfl⟩
        rw [hrl] at HSz HD ⊢
        have HRl := Lib.hid hrl
        obtain ⟨nl, hnl⟩ : ∃ m, N.length = m := ⟨_, rfl⟩
        rw [hnl] at HSz HD HLn ⊢
        have HNl := Lib.hid hnl
        clear hrl hnl
        have hrl16 := HSz.out.1
        have hnl16 := HSz.out.2
        go_wp2_with fail
        go_loopw [13, 14, 63] (fun xk xg xi wr => ∃ (k g i : Nat) (nq : Nat), xk = .int .i64 k ∧ xg = .int .i64 g ∧ xi = .int .i64 i ∧ i ≤ rl ∧ k + g = i ∧ Hid (wr = w6.drewN nq) ∧ Hid (k = ((R.take i).filter fun r => !delR cl tm r).length)) (fun _ _ xi _ => rl - (intOf xi).toNat)
        case atStart => exact ⟨0, 0, 0, 0, rfl, rfl, rfl, Nat.zero_le _, rfl, rfl, rfl⟩
        case round =>
          obtain ⟨k, g, i, nq, rfl, rfl, rfl, hi, hkg, HW, HK⟩ := hrel
          by_cases hlt : i < rl
          · have hiR : i < R.length := by rw [HRl.out]; exact hlt
            have HX := Lib.hid (show R[i]? = some R[i] from List.getElem?_eq_getElem hiR)
            have hha : Has wr w6.heap.size Aa (reqCells R) := by rw [HW.out]; exact HOa6.out
            obtain ⟨a1, rfl, _, c0, c1, c2, c3, c4, c5⟩ := hha.req hiR
            obtain ⟨x, hx⟩ : ∃ x, R[i] = x := ⟨_, rfl⟩
            rw [hx] at HX c0 c1 c2 c3 c4 c5
            have hii : (i : Int) < (rl : Int) := by omega
            clear hx hha
            cases hd : delR cl tm x
            · have hd1 : delR cl tm x = false := hd
              obtain ⟨hn1, hn2⟩ := kept_next (p := fun r => !delR cl tm r) HX.out (by rw [hd]; rfl)
              rw [← HDq.out, ← HK.out] at hn1
              rw [← HK.out] at hn2
              have HK2 := Lib.hid hn2.symm
              obtain ⟨hkN, hxN⟩ := List.getElem?_eq_some_iff.1 hn1
              have hhb : Has wr w6.heap.size Ab (reqCells N) := by rw [HW.out]; exact HOb.out
              obtain ⟨a2, rfl, _, d0, d1, d2, d3, d4, d5⟩ := hhb.req hkN
              rw [hxN] at d0 d1 d2 d3 d4 d5
              have hkl : k < nl := by rw [← HNl.out]; exact hkN
              have hkk : (k : Int) < (nl : Int) := by omega
              have E := fun (w : World) => neq_req (x := x) (y := x) (r := false) (by simp) w
              have G := fun (w : World) => guard_req .neq (.tmp 92) (.tmp 96) #[.int .i64 x.cl, .int .i64 x.tm, .int .i64 x.kd, .int .i64 x.ky, .int .i64 x.vl, .int .i64 x.sg] #[.int .i64 x.cl, .int .i64 x.tm, .int .i64 x.kd, .int .i64 x.ky, .int .i64 x.vl, .int .i64 x.sg] w
              have gk : decide ((nl : Int) ≤ (k : Int)) = false := decide_eq_false (by omega)
              have gk2 : decide (nl ≤ k) = false := decide_eq_false (by omega)
              clear hn1 hn2 hkN hxN hhb hd hiR
              by_cases hcl : x.cl = cl
              · have g1 : (x.cl == cl) = true := by simpa using hcl
                have g2 : decide (x.tm ≤ tm) = false := by
                  unfold delR at hd1
                  rw [decide_eq_true hcl, Bool.true_and] at hd1
                  exact hd1
                clear hcl hd1
                go_wp2_with fail
                go_quiet (fail)
                go_wp2_with fail
                go_roundw
                case rel => exact ⟨k + 1, g, i + 1, _, by go_num, rfl, by go_num, by omega, by omega, (show _ = w6.drewN _ by rw [HW.out, World.drewN_drewN]), HK2.out⟩
                case measure => simp [intOf]; omega
              · have g1 : (x.cl == cl) = false := by simpa using hcl
                clear hcl hd1
                go_wp2_with fail
                go_quiet (fail)
                go_wp2_with fail
                go_roundw
                case rel => exact ⟨k + 1, g, i + 1, _, by go_num, rfl, by go_num, by omega, by omega, (show _ = w6.drewN _ by rw [HW.out, World.drewN_drewN]), HK2.out⟩
                case measure => simp [intOf]; omega
            · have HK2 := Lib.hid (show k = ((R.take (i + 1)).filter fun r => !delR cl tm r).length from HK.out.trans (gone_next (p := fun r => !delR cl tm r) HX.out (by rw [hd]; rfl)).symm)
              have hd2 : (x.cl == cl) = true ∧ decide (x.tm ≤ tm) = true := by
                unfold delR at hd
                simpa using hd
              obtain ⟨g1, g2⟩ := hd2
              clear hd hiR
              go_wp2_with fail
              go_roundw
              case rel => exact ⟨k, g + 1, i + 1, _, rfl, by go_num, by go_num, by omega, by omega, HW, HK2.out⟩
              case measure => simp [intOf]; omega
          · obtain rfl : i = rl := by omega
            have hk : k = nl := by
              have := HK.out
              rw [List.take_of_length_le (by rw [HRl.out]; exact Nat.le_refl _), ← HDq.out, HNl.out] at this
              exact this
            subst hk
            have gg : ((g : Int) == d) = true := by have := HD.out; simp; omega
            have HS7 := Lib.hid (show Rt w tb v5 1 3 D wr by rw [HW.out]; exact HS6.out.drewN nq)
            have HDr2 := Lib.hid (pdrop_any HS7.out.tab cl tm)
            rw [HDd.out, Int.sub_self] at HDr2
            have HPost := Lib.hid (fun wz (hp : TbPost wr tb v5 1 3 D wz) => HS7.out.post hp)
            go_wp2_with fail
            refine HDr2.out.mono ?_
            rintro e w8 ⟨rfl, hp⟩
            obtain ⟨v8, hr8⟩ := HPost.out _ hp
            have HS8 := Lib.hid hr8
            clear hp hr8
            have HLe := Lib.hid (plen_any HS8.out.tab)
            rw [← HLn.out] at HLe
            go_wp2_with fail
            refine HLe.out.mono ?_
            rintro e w9 ⟨rfl, rfl⟩
            go_wp2_with fail
            refine (wakes13_any _).mono ?_
            rintro e w10 ⟨rfl, hb10⟩
            have HS9 := Lib.hid (HS8.out.below hb10)
            clear hb10
            go_wp2_with fail
            go_ret
            exact ⟨rfl, HS9.out.low⟩
end Go.Proofs.Ytbpefdnlldpjiaa
