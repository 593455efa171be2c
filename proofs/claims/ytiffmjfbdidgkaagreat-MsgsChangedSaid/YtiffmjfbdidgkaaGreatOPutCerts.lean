/- The contracts of the writer's certificates and parts. -/
import Derived.Test.YtiffmjfbdidgkaaGreatOS2
namespace Go.Proofs.YtiffmjfbdidgkaaGreat
open Go.RowKit

set_option maxHeartbeats 1000000 in
theorem wr_cert (x : Cs) (B g : Nat) (bs : List Int) (w : World) (hw : Wr w B g bs) (hx : x.In w B) (hsz : bs.length + 6 * x.c.toks.length ≤ 70368744177664) (hB : B ≤ w.heap.size) :
    Calls Tryz.prog 89 #[.pointer (some ⟨g, 0, none⟩), .agg #[.int .i64 x.c.vw, .int .i64 x.c.ins, .int .i64 x.c.sq, .slice x.A1 x.c.bt.length x.c1, .slice x.A2 x.c.vs.length x.c2]] w (WrPost w B g bs x.c.toks) := by
  have hgw := hw.lt
  have hgB := hw.1
  have HW := Lib.hid hw
  have HI := Lib.hid hx
  clear hw hx
  have HS := Lib.hid (show bs.length + 6 * (3 + ((listToks Rq.toks x.c.bt).length + (listToks Vt.toks x.c.vs).length)) ≤ 70368744177664 by
    have : x.c.toks.length = 3 + ((listToks Rq.toks x.c.bt).length + (listToks Vt.toks x.c.vs).length) := by simp [Ct.toks]; omega
    rw [this] at hsz; exact hsz)
  have hs3 : bs.length + 6 * 3 ≤ 70368744177664 := by have := HS.out; omega
  clear hsz
  have HN := Lib.hid (show [x.c.vw, x.c.ins, x.c.sq].length = 3 from rfl)
  have HBx := Lib.hid ((Blk.new w 110 #[.int .i64 x.c.vw, .int .i64 x.c.ins, .int .i64 x.c.sq, .slice x.A1 x.c.bt.length x.c1, .slice x.A2 x.c.vs.length x.c2]).alloc (.cells #[.int .i64 x.c.vw, .int .i64 x.c.ins, .int .i64 x.c.sq] 3))
  have HBk := Lib.hid (Blk.new1 w (.cells #[.int .i64 x.c.vw, .int .i64 x.c.ins, .int .i64 x.c.sq, .slice x.A1 x.c.bt.length x.c1, .slice x.A2 x.c.vs.length x.c2] 110) 3 #[.int .i64 x.c.vw, .int .i64 x.c.ins, .int .i64 x.c.sq])
  go_enter Tryz.func89, Tryz.ntmps89
  go_wp2_with fail
  refine (wr_numbers_is (B := B) HN.out hs3 _ ((HW.out.alloc _).alloc _) HBk.out (by simp; omega)).mono ?_
  rintro e w1 ⟨hk, h⟩
  have hsz1 := hk.size
  simp only [World.size_alloc] at hsz1
  have hx := hk.blk HBx.out (by decide) (by omega)
  have HK := Lib.hid (((Kept.refl B g 5 w).alloc (.cells #[.int .i64 x.c.vw, .int .i64 x.c.ins, .int .i64 x.c.sq, .slice x.A1 x.c.bt.length x.c1, .slice x.A2 x.c.vs.length x.c2] 110)).alloc (.cells #[.int .i64 x.c.vw, .int .i64 x.c.ins, .int .i64 x.c.sq] 3) |>.trans hk)
  clear hk HBk HBx
  rcases h with ⟨na, hc, rfl, hw'⟩ | ⟨hc, rfl⟩
  · have hc3 : w1.cell? ⟨w.heap.size, 3, none⟩ = some (.slice x.A1 x.c.bt.length x.c1) := hx.cell 3
    have HX := Lib.hid hx
    have HC := Lib.hid hc
    have HV := Lib.hid hw'
    have HI1 := Lib.hid (HI.out.reads (Reads.kept HK.out hgB))
    have hs2 : (bs ++ flat na).length + 6 * (listToks Rq.toks x.c.bt).length ≤ 70368744177664 := by have := wr_len hc HS.out; omega
    clear hc hw' hx
    go_wp2_with fail
    refine (wr_batch x.c.bt x.A1 x.c1 B g _ _ HV.out HI1.out.bt hs2 (by omega)).mono ?_
    rintro e w2 ⟨hk, h⟩
    have hsz2 := hk.size
    have hx := hk.blk HX.out (by decide) (by omega)
    have HK2 := Lib.hid hk
    clear hk hc3
    rcases h with ⟨nb, hc, rfl, hw'⟩ | ⟨hc, rfl⟩
    · have hc4 : w2.cell? ⟨w.heap.size, 4, none⟩ = some (.slice x.A2 x.c.vs.length x.c2) := hx.cell 4
      have HC2 := Lib.hid hc
      have HV2 := Lib.hid hw'
      have HI2 := Lib.hid (HI1.out.reads (Reads.kept HK2.out hgB))
      have hs1 : (bs ++ flat na ++ flat nb).length + 6 * (listToks Vt.toks x.c.vs).length ≤ 70368744177664 := wr_len (k := (listToks Vt.toks x.c.vs).length) hc (wr_len HC.out HS.out)
      clear hc hw' hx
      go_wp2_with fail
      refine (wr_votes x.c.vs x.A2 x.c2 B g _ _ HV2.out HI2.out.vs hs1 (by omega)).mono ?_
      rintro e w3 hp
      have HP : Hid (WrPost w B g bs x.c.toks e w3) := (WrPost.app (ta := [x.c.vw, x.c.ins, x.c.sq].map .num) HK.out HC.out (WrPost.app HK2.out HC2.out hp))
      rcases hp with ⟨hk, ⟨nc, hc, rfl, hw'⟩ | ⟨hc, rfl⟩⟩
      all_goals
        clear hc hk
        (try clear hw')
        go_wp2
        go_ret
        exact HP.out
    · have HP : Hid (WrPost w B g bs x.c.toks (.returned (.bool false)) w2) := (WrPost.app (ta := [x.c.vw, x.c.ins, x.c.sq].map .num) HK.out HC.out (WrPost.bad (codes_app_none1 hc) HK2.out))
      clear hc hx
      go_wp2
      go_ret
      exact HP.out
  · have HC := Lib.hid hc
    clear hc hx
    go_wp2
    go_ret
    exact WrPost.bad (codes_app_none1 (l := [x.c.vw, x.c.ins, x.c.sq].map .num) HC.out) HK.out
set_option maxHeartbeats 1000000 in
theorem put_certs (l : List Ct) (A : Option Addr) (c B g : Nat) (bs : List Int) (w : World) (hw : Wr w B g bs) (hh : HasCerts w B A l)
    (hsz : bs.length + 6 * (listToks Ct.toks l).length ≤ 70368744177664) (hB : B ≤ w.heap.size) :
    Calls Tryz.prog 88 #[.pointer (some ⟨g, 0, none⟩), .slice A l.length c, .func (.func 89) #[] #[]] w (WrPost w B g bs (listToks Ct.toks l)) := by
  have HW := Lib.hid hw
  have HH := Lib.hid hh
  have HS := Lib.hid hsz
  have hs1 : bs.length + 6 * 1 ≤ 70368744177664 := by simp [listToks] at hsz; omega
  clear hw hh hsz
  by_cases hlen : l.length ≤ 256
  · have HN := Lib.hid (show [(l.length : Int)].length = 1 from rfl)
    have HBk := Lib.hid (Blk.new w 3 #[.int .i64 (l.length : Int)])
    go_enter Tryz.func88, Tryz.ntmps88
    go_wp2_with fail
    refine (wr_numbers_is (B := B) HN.out hs1 _ (HW.out.alloc _) HBk.out (by simp; omega)).mono ?_
    rintro e w1 hp
    obtain ⟨rfl, hr⟩ := PutRel.start (f := Ct.toks) hlen (hp.from ((Kept.refl B g 5 w).alloc (.cells #[.int .i64 (l.length : Int)] 3)))
    have HR := Lib.hid hr
    clear hp hr HBk
    go_wp2_with fail
    go_loopw [22] (fun x wr => PutRel Ct.toks l w B g bs x wr) (fun x _ => l.length - (intOf x).toNat)
    case atStart => exact HR.out
    case round =>
      obtain ⟨k, ns, rfl, hk, hcd, hwr, hkp⟩ := hrel
      have hbs := hkp.size
      have HC := Lib.hid hcd
      have HV := Lib.hid hwr
      have HK := Lib.hid hkp
      clear hcd hwr hkp
      by_cases hlt : k < l.length
      · obtain ⟨ad, x, rfl, hab, hr, hin, h0, h1, h2, h3, h4⟩ := (HH.out.reads (Reads.kept HK.out HW.out.1)).at hlt
        have HR := Lib.hid hr.symm
        have HI := Lib.hid hin
        clear hr hin
        have HE := Lib.hid (put_bound hlt HR.out HC.out HS.out)
        go_wp2_with fail
        refine (wr_cert x B g _ _ (HV.out.alloc _) (HI.out.reads (Reads.kept ((Kept.refl B g 5 wr).alloc _) HW.out.1)) HE.out (by simp; omega)).mono ?_
        rintro e w2 hp
        have hn := PutRel.next hlt HR.out HC.out HK.out (hp.from ((Kept.refl B g 5 wr).alloc (.cells #[.int .i64 x.c.vw, .int .i64 x.c.ins, .int .i64 x.c.sq, .slice x.A1 x.c.bt.length x.c1, .slice x.A2 x.c.vs.length x.c2] 110)))
        clear hp h0 h1 h2 h3 h4
        rcases hn with ⟨rfl, hn⟩ | ⟨rfl, hn⟩
        · have HN2 := Lib.hid hn
          clear hn
          go_wp2
          go_roundw
          case rel => exact HN2.out
          case measure => simp [intOf]; omega
        · have HN2 := Lib.hid hn
          clear hn
          go_wp2
          go_ret
          exact HN2.out
      · have HD := Lib.hid (PutRel.done (by omega) HC.out HV.out HK.out)
        go_wp2
        go_ret
        exact HD.out
  · have HD := Lib.hid (put_long (f := Ct.toks) (l := l) (w := w) (B := B) (g := g) (bs := bs) (by omega))
    have hlen' : 256 < l.length := by omega
    go_enter Tryz.func88, Tryz.ntmps88
    go_wp2
    go_ret
    exact HD.out
set_option maxHeartbeats 400000 in
theorem wr_certs (l : List Ct) (A : Option Addr) (c B g : Nat) (bs : List Int) (w : World) (hw : Wr w B g bs) (hh : HasCerts w B A l)
    (hsz : bs.length + 6 * (listToks Ct.toks l).length ≤ 70368744177664) (hB : B ≤ w.heap.size) :
    Calls Tryz.prog 74 #[.pointer (some ⟨g, 0, none⟩), .slice A l.length c] w (WrPost w B g bs (listToks Ct.toks l)) := by
  have HP := Lib.hid (put_certs l A c B g bs w hw hh hsz hB)
  clear hw hh hsz
  go_enter Tryz.func74, Tryz.ntmps74
  go_wp2_with fail
  refine (HP.out).mono ?_
  rintro e w' hp
  rcases hp with ⟨hk, ⟨ns, hc, rfl, hw'⟩ | ⟨hc, rfl⟩⟩
  · have HQ := Lib.hid (WrPost.good hc hw' hk)
    clear hc hw' hk
    go_wp2
    go_ret
    exact HQ.out
  · have HQ := Lib.hid (WrPost.bad (bs := bs) hc hk)
    clear hc hk
    go_wp2
    go_ret
    exact HQ.out
set_option maxHeartbeats 1000000 in
theorem wr_part (x : Ps) (B g : Nat) (bs : List Int) (w : World) (hw : Wr w B g bs) (hx : x.In w B) (hsz : bs.length + 6 * x.p.toks.length ≤ 70368744177664) (hB : B ≤ w.heap.size) :
    Calls Tryz.prog 76 #[.pointer (some ⟨g, 0, none⟩), .agg #[.int .i64 x.p.fr, .slice x.A1 x.p.vs.length x.c1, .slice x.A2 x.p.cs.length x.c2, .int .i64 x.p.sg]] w (WrPost w B g bs x.p.toks) := by
  have hgw := hw.lt
  have hgB := hw.1
  have HW := Lib.hid hw
  have HI := Lib.hid hx
  clear hw hx
  have HS := Lib.hid (show bs.length + 6 * (1 + ((listToks Vt.toks x.p.vs).length + ((listToks Ct.toks x.p.cs).length + 1))) ≤ 70368744177664 by
    have : x.p.toks.length = 1 + ((listToks Vt.toks x.p.vs).length + ((listToks Ct.toks x.p.cs).length + 1)) := by simp [Pt.toks]; omega
    rw [this] at hsz; exact hsz)
  have hs3 : bs.length + 6 * 1 ≤ 70368744177664 := by have := HS.out; omega
  clear hsz
  have HN := Lib.hid (show [x.p.fr].length = 1 from rfl)
  have HN4 := Lib.hid (show [x.p.sg].length = 1 from rfl)
  have HBx := Lib.hid ((Blk.new w 112 #[.int .i64 x.p.fr, .slice x.A1 x.p.vs.length x.c1, .slice x.A2 x.p.cs.length x.c2, .int .i64 x.p.sg]).alloc (.cells #[.int .i64 x.p.fr] 3))
  have HBk := Lib.hid (Blk.new1 w (.cells #[.int .i64 x.p.fr, .slice x.A1 x.p.vs.length x.c1, .slice x.A2 x.p.cs.length x.c2, .int .i64 x.p.sg] 112) 3 #[.int .i64 x.p.fr])
  go_enter Tryz.func76, Tryz.ntmps76
  go_wp2_with fail
  refine (wr_numbers_is (B := B) HN.out hs3 _ ((HW.out.alloc _).alloc _) HBk.out (by simp; omega)).mono ?_
  rintro e w1 ⟨hk, h⟩
  have hsz1 := hk.size
  simp only [World.size_alloc] at hsz1
  have hx := hk.blk HBx.out (by decide) (by omega)
  have HK := Lib.hid (((Kept.refl B g 5 w).alloc (.cells #[.int .i64 x.p.fr, .slice x.A1 x.p.vs.length x.c1, .slice x.A2 x.p.cs.length x.c2, .int .i64 x.p.sg] 112)).alloc (.cells #[.int .i64 x.p.fr] 3) |>.trans hk)
  clear hk HBk HBx
  rcases h with ⟨na, hc, rfl, hw'⟩ | ⟨hc, rfl⟩
  · have hc3 : w1.cell? ⟨w.heap.size, 1, none⟩ = some (.slice x.A1 x.p.vs.length x.c1) := hx.cell 1
    have HX := Lib.hid hx
    have HC := Lib.hid hc
    have HV := Lib.hid hw'
    have HI1 := Lib.hid (HI.out.reads (Reads.kept HK.out hgB))
    have hs2 : (bs ++ flat na).length + 6 * (listToks Vt.toks x.p.vs).length ≤ 70368744177664 := by have := wr_len hc HS.out; omega
    clear hc hw' hx
    go_wp2_with fail
    refine (wr_votes x.p.vs x.A1 x.c1 B g _ _ HV.out HI1.out.vs hs2 (by omega)).mono ?_
    rintro e w2 ⟨hk, h⟩
    have hsz2 := hk.size
    have hx := hk.blk HX.out (by decide) (by omega)
    have HK2 := Lib.hid hk
    clear hk hc3
    rcases h with ⟨nb, hc, rfl, hw'⟩ | ⟨hc, rfl⟩
    · have hc4 : w2.cell? ⟨w.heap.size, 2, none⟩ = some (.slice x.A2 x.p.cs.length x.c2) := hx.cell 2
      have HX2 := Lib.hid hx
      have HC2 := Lib.hid hc
      have HV2 := Lib.hid hw'
      have HI2 := Lib.hid (HI1.out.reads (Reads.kept HK2.out hgB))
      have hs0 := wr_len (k := (listToks Ct.toks x.p.cs).length + 1) hc (wr_len HC.out HS.out)
      have HS0 := Lib.hid hs0
      have hs1 : (bs ++ flat na ++ flat nb).length + 6 * (listToks Ct.toks x.p.cs).length ≤ 70368744177664 := by omega
      clear hc hw' hx hs0
      go_wp2_with fail
      refine (wr_certs x.p.cs x.A2 x.c2 B g _ _ HV2.out HI2.out.cs hs1 (by omega)).mono ?_
      rintro e w3 ⟨hk, h⟩
      have hsz3 := hk.size
      have hx := hk.blk HX2.out (by decide) (by omega)
      have HK3 := Lib.hid hk
      clear hk hc4
      rcases h with ⟨nc, hc, rfl, hw'⟩ | ⟨hc, rfl⟩
      · have hc5 : w3.cell? ⟨w.heap.size, 3, none⟩ = some (.int .i64 x.p.sg) := hx.cell 3
        have HBk3 := Lib.hid (Blk.new w3 3 #[.int .i64 x.p.sg])
        have HC3 := Lib.hid hc
        have HV3 := Lib.hid hw'
        have hs4 : (bs ++ flat na ++ flat nb ++ flat nc).length + 6 * 1 ≤ 70368744177664 := wr_len (k := 1) hc HS0.out
        clear hc hw' hx
        go_wp2_with fail
        refine (wr_numbers_is (B := B) HN4.out hs4 _ (HV3.out.alloc _) HBk3.out (by simp; omega)).mono ?_
        rintro e w4 hp
        have HP : Hid (WrPost w B g bs x.p.toks e w4) := (WrPost.app (ta := [x.p.fr].map .num) HK.out HC.out (WrPost.app HK2.out HC2.out (WrPost.app HK3.out HC3.out
          (hp.from ((Kept.refl B g 5 w3).alloc (.cells #[.int .i64 x.p.sg] 3))))))
        rcases hp with ⟨hk, ⟨nd, hc, rfl, hw'⟩ | ⟨hc, rfl⟩⟩
        all_goals
          clear hc hk
          (try clear hw')
          go_wp2
          go_ret
          exact HP.out
      · have HP : Hid (WrPost w B g bs x.p.toks (.returned (.bool false)) w3) := (WrPost.app (ta := [x.p.fr].map .num) HK.out HC.out (WrPost.app HK2.out HC2.out (WrPost.bad (codes_app_none1 hc) HK3.out)))
        clear hc hx
        go_wp2
        go_ret
        exact HP.out
    · have HP : Hid (WrPost w B g bs x.p.toks (.returned (.bool false)) w2) := (WrPost.app (ta := [x.p.fr].map .num) HK.out HC.out (WrPost.bad (codes_app_none1 hc) HK2.out))
      clear hc hx
      go_wp2
      go_ret
      exact HP.out
  · have HC := Lib.hid hc
    clear hc hx
    go_wp2
    go_ret
    exact WrPost.bad (codes_app_none1 (l := [x.p.fr].map .num) HC.out) HK.out

set_option maxHeartbeats 1000000 in
theorem put_parts (l : List Pt) (A : Option Addr) (c B g : Nat) (bs : List Int) (w : World) (hw : Wr w B g bs) (hh : HasParts w B A l)
    (hsz : bs.length + 6 * (listToks Pt.toks l).length ≤ 70368744177664) (hB : B ≤ w.heap.size) :
    Calls Tryz.prog 75 #[.pointer (some ⟨g, 0, none⟩), .slice A l.length c, .func (.func 76) #[] #[]] w (WrPost w B g bs (listToks Pt.toks l)) := by
  have HW := Lib.hid hw
  have HH := Lib.hid hh
  have HS := Lib.hid hsz
  have hs1 : bs.length + 6 * 1 ≤ 70368744177664 := by simp [listToks] at hsz; omega
  clear hw hh hsz
  by_cases hlen : l.length ≤ 256
  · have HN := Lib.hid (show [(l.length : Int)].length = 1 from rfl)
    have HBk := Lib.hid (Blk.new w 3 #[.int .i64 (l.length : Int)])
    go_enter Tryz.func75, Tryz.ntmps75
    go_wp2_with fail
    refine (wr_numbers_is (B := B) HN.out hs1 _ (HW.out.alloc _) HBk.out (by simp; omega)).mono ?_
    rintro e w1 hp
    obtain ⟨rfl, hr⟩ := PutRel.start (f := Pt.toks) hlen (hp.from ((Kept.refl B g 5 w).alloc (.cells #[.int .i64 (l.length : Int)] 3)))
    have HR := Lib.hid hr
    clear hp hr HBk
    go_wp2_with fail
    go_loopw [22] (fun x wr => PutRel Pt.toks l w B g bs x wr) (fun x _ => l.length - (intOf x).toNat)
    case atStart => exact HR.out
    case round =>
      obtain ⟨k, ns, rfl, hk, hcd, hwr, hkp⟩ := hrel
      have hbs := hkp.size
      have HC := Lib.hid hcd
      have HV := Lib.hid hwr
      have HK := Lib.hid hkp
      clear hcd hwr hkp
      by_cases hlt : k < l.length
      · obtain ⟨ad, x, rfl, hab, hr, hin, h0, h1, h2, h3⟩ := (HH.out.reads (Reads.kept HK.out HW.out.1)).at hlt
        have HR := Lib.hid hr.symm
        have HI := Lib.hid hin
        clear hr hin
        have HE := Lib.hid (put_bound hlt HR.out HC.out HS.out)
        go_wp2_with fail
        refine (wr_part x B g _ _ (HV.out.alloc _) (HI.out.reads (Reads.kept ((Kept.refl B g 5 wr).alloc _) HW.out.1)) HE.out (by simp; omega)).mono ?_
        rintro e w2 hp
        have hn := PutRel.next hlt HR.out HC.out HK.out (hp.from ((Kept.refl B g 5 wr).alloc (.cells #[.int .i64 x.p.fr, .slice x.A1 x.p.vs.length x.c1, .slice x.A2 x.p.cs.length x.c2, .int .i64 x.p.sg] 112)))
        clear hp h0 h1 h2 h3
        rcases hn with ⟨rfl, hn⟩ | ⟨rfl, hn⟩
        · have HN2 := Lib.hid hn
          clear hn
          go_wp2
          go_roundw
          case rel => exact HN2.out
          case measure => simp [intOf]; omega
        · have HN2 := Lib.hid hn
          clear hn
          go_wp2
          go_ret
          exact HN2.out
      · have HD := Lib.hid (PutRel.done (by omega) HC.out HV.out HK.out)
        go_wp2
        go_ret
        exact HD.out
  · have HD := Lib.hid (put_long (f := Pt.toks) (l := l) (w := w) (B := B) (g := g) (bs := bs) (by omega))
    have hlen' : 256 < l.length := by omega
    go_enter Tryz.func75, Tryz.ntmps75
    go_wp2
    go_ret
    exact HD.out
end Go.Proofs.YtiffmjfbdidgkaaGreat
