/- The contract of the law's own do: whatever the act. -/
import Derived.Test.YtpopchigboacaaaLinkDo0
import Derived.Test.YtpopchigboacaaaLinkDo1
import Derived.Test.YtpopchigboacaaaLinkDo2
import Derived.Test.YtpopchigboacaaaLinkDo3
import Derived.Test.YtpopchigboacaaaLinkDo4
import Derived.Test.YtpopchigboacaaaLinkDo5a
import Derived.Test.YtpopchigboacaaaLinkDo5b
import Derived.Test.YtpopchigboacaaaLinkDo6a
import Derived.Test.YtpopchigboacaaaLinkDo6b
namespace Go.Proofs.Ytpopchigboacaaa
open Go.RowKit Go.Sort

theorem do_any {R : Nat → Prop} {B : Nat} {w0 w : World} {qb pb : Nat} {room lost : Int} {l : List Bs} (h : Jo R B w0 w qb pb room lost (l.map Bs.z) lost l) (h0 : 0 ≤ lost) (h1 : lost ≤ 1000000) (hB : B ≤ w.heap.size) (hB0 : B ≤ w0.heap.size) {x : Ac} (hd : fit x.dd) (hb : Has w B x.A (u8s x.b)) (hy : ∀ y ∈ x.b, 0 ≤ y ∧ y ≤ 255) (hlen : x.b.length ≤ maxLen) (hn : x.A = none → x.c = 0) (hc : x.b.length ≤ x.c) :
    Calls Try.prog 19 #[.pointer (some ⟨qb, 0, none⟩), .pointer (some ⟨pb, 0, none⟩), .agg #[.int .i64 x.dd, .int .i64 x.pt, .int .i64 x.kk, .slice x.A x.b.length x.c]] w fun e w' => e = .returned (.bool true) ∧ ∃ lost' l', Jo R B w0 w' qb pb room lost' (l'.map Bs.z) lost' l' ∧ 0 ≤ lost' ∧ lost' ≤ lost + 1 := by
  rcases (show x.dd % 7 = 0 ∨ x.dd % 7 = 1 ∨ x.dd % 7 = 2 ∨ x.dd % 7 = 3 ∨ x.dd % 7 = 4 ∨ x.dd % 7 = 5 ∨ x.dd % 7 = 6 by omega) with hv | hv | hv | hv | hv | hv | hv
  · exact do_0 h h0 h1 hB hB0 hv hd hb hy hlen hn hc
  · exact do_1 h h0 h1 hB hB0 hv hd hb hy hlen hn hc
  · exact do_2 h h0 h1 hB hB0 hv hd hb hy hlen hn hc
  · exact do_3 h h0 h1 hB hB0 hv hd hb hy hlen hn hc
  · exact do_4 h h0 h1 hB hB0 hv hd hb hy hlen hn hc
  · by_cases hp : hasB (l.map Bs.z) x.pt = true ∧ (l.length : Int) < room
    · exact do_5a h h0 h1 hB hB0 hv hp hd hb hy hlen hn hc
    · exact do_5b h h0 h1 hB hB0 hv hp hd hb hy hlen hn hc
  · by_cases hp : hasB (l.map Bs.z) x.pt = true ∧ hasB (l.map Bs.z) x.kk = true
    · exact do_6a h h0 h1 hB hB0 hv hp hd hb hy hlen hn hc
    · exact do_6b h h0 h1 hB hB0 hv hp hd hb hy hlen hn hc
end Go.Proofs.Ytpopchigboacaaa
