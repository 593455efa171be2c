package ballot_test

import (
	"math"
	"math/rand/v2"
	"slices"
	"testing"

	"psephos/api"
	"psephos/ballot"
)

// top is the greatest node of the greatest f.
const top = 12

// far are numbers that are no f, no view, no instance and no node, and would be one if they were cut or wrapped round.
func far() []int {
	return []int{
		math.MinInt, math.MinInt + 1, math.MinInt + 3, -1 << 32, -1<<32 + 1, -1 << 16, -256, -64, -63, -13, -12, -2, -1,
		64, 65, 76, 255, 256, 257, 1 << 16, 1<<16 + 1, 1 << 32, 1<<32 + 1, 1<<32 + 2, math.MaxInt - 1, math.MaxInt,
	}
}

// around are the numbers from lo to hi, those next to them, and the far ones.
func around(lo, hi int) []int {
	l := far()
	for n := lo - 3; n <= hi+3; n++ {
		l = append(l, n)
	}
	return l
}

// votes are votes of these nodes, with seals that tell nothing about them.
func votes(nodes ...int) []api.Vote {
	var l []api.Vote
	for i, node := range nodes {
		l = append(l, api.Vote{Node: node, Seal: 1000 - i})
	}
	return l
}

// picked are the nodes whose bits are set.
func picked(mask int) []int {
	var l []int
	for node := range 32 {
		if mask>>node&1 == 1 {
			l = append(l, node)
		}
	}
	return l
}

// P4.1: the three numbers of nodes, for each f that may be.
func TestNumbersOfNodes(t *testing.T) {
	for _, c := range []struct{ f, nodes, quorum, weak int }{
		{1, 4, 3, 2}, {2, 7, 5, 3}, {3, 10, 7, 4}, {4, 13, 9, 5},
	} {
		if got := ballot.Nodes(c.f); got != c.nodes {
			t.Errorf("Nodes(%d) = %d; want %d", c.f, got, c.nodes)
		}
		if got := ballot.Quorum(c.f); got != c.quorum {
			t.Errorf("Quorum(%d) = %d; want %d", c.f, got, c.quorum)
		}
		if got := ballot.Weak(c.f); got != c.weak {
			t.Errorf("Weak(%d) = %d; want %d", c.f, got, c.weak)
		}
	}
}

// P4.1: for any other f they are 0.
func TestNumbersOfNodesOutside(t *testing.T) {
	for _, f := range append(far(), 0, api.MaxF+1, api.MaxF+2, 12, 13) {
		if a, b, c := ballot.Nodes(f), ballot.Quorum(f), ballot.Weak(f); a != 0 || b != 0 || c != 0 {
			t.Errorf("Nodes, Quorum, Weak of %d = %d, %d, %d; want 0, 0, 0", f, a, b, c)
		}
	}
}

// P4.1: single primaries, the chapter's example among them.
func TestPrimary(t *testing.T) {
	for _, c := range []struct{ f, view, inst, want int }{
		{1, 0, 0, 0}, {1, 0, 1, 1}, {1, 2, 1, 3}, {1, 3, 0, 3}, {1, 3, 1, 0}, {1, 4, 0, 0}, {1, 12, 0, 0}, {1, 12, 1, 1},
		{1, 3, 2, -1}, {1, 0, 2, -1},
		{2, 6, 0, 6}, {2, 6, 1, 0}, {2, 6, 2, 1}, {2, 12, 2, 0}, {2, 6, 3, -1},
		{3, 9, 3, 2}, {3, 12, 3, 5},
		{4, 12, 0, 12}, {4, 12, 1, 0}, {4, 12, 4, 3}, {4, 8, 4, 12}, {4, 0, 4, 4}, {4, 0, 5, -1}, {4, 13, 0, -1},
		{1, -1, 0, -1}, {1, -1, 1, -1}, {1, 0, -1, -1}, {1, 4, -4, -1}, {1, -4, 4, -1}, {1, 13, 1, -1},
		{0, 0, 0, -1}, {5, 0, 0, -1}, {-1, 0, 0, -1},
	} {
		if got := ballot.Primary(c.f, c.view, c.inst); got != c.want {
			t.Errorf("Primary(%d, %d, %d) = %d; want %d", c.f, c.view, c.inst, got, c.want)
		}
	}
}

// P4.1: every primary, by counting on from node 0 and round, and -1 wherever an argument is outside.
func TestPrimaryAll(t *testing.T) {
	for _, f := range around(1, api.MaxF) {
		for _, view := range around(0, api.MaxView) {
			for _, inst := range around(0, api.MaxF) {
				want := -1
				if f >= 1 && f <= 4 && view >= 0 && view <= 12 && inst >= 0 && inst <= f {
					want = 0
					for range view + inst {
						want++
						if want == 3*f+1 {
							want = 0
						}
					}
				}
				if got := ballot.Primary(f, view, inst); got != want {
					t.Fatalf("Primary(%d, %d, %d) = %d; want %d", f, view, inst, got, want)
				}
			}
		}
	}
}

// holds checks that the set has exactly these nodes, which are ascending.
func holds(t *testing.T, s *ballot.Set, want []int) {
	t.Helper()
	if got := s.Len(); got != len(want) {
		t.Errorf("Len() = %d; want %d", got, len(want))
	}
	if got := s.All(); !slices.Equal(got, want) {
		t.Errorf("All() = %v; want %v", got, want)
	}
	for _, node := range around(0, top) {
		if got := s.Has(node); got != slices.Contains(want, node) {
			t.Errorf("Has(%d) = %v in the set %v", node, got, want)
		}
	}
}

// P4.2: the zero value is an empty set.
func TestEmptySet(t *testing.T) {
	var s ballot.Set
	holds(t, &s, nil)
	holds(t, new(ballot.Set), nil)
	holds(t, &ballot.Set{}, nil)
}

// P4.2: a node is put once; what can be no node is not put.
func TestPut(t *testing.T) {
	var s ballot.Set
	for i, c := range []struct {
		node int
		want bool
		all  []int
	}{
		{5, true, []int{5}},
		{5, false, []int{5}},
		{12, true, []int{5, 12}},
		{13, false, []int{5, 12}},
		{0, true, []int{0, 5, 12}},
		{-1, false, []int{0, 5, 12}},
		{0, false, []int{0, 5, 12}},
		{12, false, []int{0, 5, 12}},
		{1, true, []int{0, 1, 5, 12}},
	} {
		if got := s.Put(c.node); got != c.want {
			t.Errorf("step %d: Put(%d) = %v; want %v", i, c.node, got, c.want)
		}
		holds(t, &s, c.all)
	}
}

// P4.2: no number but those from 0 to 12 ever gets into a set, be it empty or full.
func TestPutOutside(t *testing.T) {
	var empty, full ballot.Set
	for node := range top + 1 {
		if !full.Put(node) {
			t.Errorf("Put(%d) = false", node)
		}
	}
	for _, s := range []*ballot.Set{&empty, &full} {
		all := s.All()
		for _, node := range append(far(), -3, 13, 14, 15, 16, 17, 31, 32, 63) {
			if s.Put(node) {
				t.Errorf("Put(%d) = true", node)
			}
			holds(t, s, all)
		}
	}
}

// P4.2: every set there is, put in rising and in falling order.
func TestEverySet(t *testing.T) {
	for mask := range 1 << (top + 1) {
		var up, down ballot.Set
		want := picked(mask)
		for i, node := range want {
			if !up.Put(node) || !down.Put(want[len(want)-1-i]) {
				t.Fatalf("Put of a new node of %v = false", want)
			}
		}
		for _, s := range []*ballot.Set{&up, &down} {
			if got := s.All(); !slices.Equal(got, want) || s.Len() != len(want) {
				t.Fatalf("All() = %v, Len() = %d; want %v, %d", got, s.Len(), want, len(want))
			}
			for node := range top + 1 {
				if s.Has(node) != slices.Contains(want, node) {
					t.Fatalf("Has(%d) = %v in the set %v", node, s.Has(node), want)
				}
			}
		}
	}
}

// P4.2: any calls, in any order, answer as a sorted list would.
func TestAnyCalls(t *testing.T) {
	r := rand.New(rand.NewPCG(4, 2))
	for range 500 {
		var s ballot.Set
		var want []int
		for range 30 {
			node := r.IntN(20) - 3
			at, found := slices.BinarySearch(want, node)
			put := !found && node >= 0 && node <= 12
			if got := s.Put(node); got != put {
				t.Fatalf("Put(%d) = %v in the set %v; want %v", node, got, want, put)
			}
			if put {
				want = slices.Insert(want, at, node)
			}
			holds(t, &s, want)
		}
	}
}

// P4.2: a copy of a set is a set of its own, and so are two sets.
func TestSetsApart(t *testing.T) {
	var one, other ballot.Set
	one.Put(3)
	holds(t, &other, nil)
	two := one
	two.Put(4)
	one.Put(9)
	holds(t, &one, []int{3, 9})
	holds(t, &two, []int{3, 4})
	holds(t, &other, nil)
}

// P4.2: the list that All gives out is the caller's own.
func TestAllIsNew(t *testing.T) {
	var s ballot.Set
	for _, node := range []int{1, 7, 12} {
		s.Put(node)
	}
	l := s.All()
	for i := range l[:cap(l)] {
		l[:cap(l)][i] = -5
	}
	holds(t, &s, []int{1, 7, 12})
}

// rises checks Rising.
func rises(t *testing.T, l []api.Vote, f int, want bool) {
	t.Helper()
	if got := ballot.Rising(l, f); got != want {
		t.Errorf("Rising(%v, %d) = %v; want %v", l, f, got, want)
	}
}

// P4.2: single lists of votes.
func TestRising(t *testing.T) {
	for _, c := range []struct {
		nodes []int
		f     int
		want  bool
	}{
		{[]int{0, 1, 2}, 1, true},
		{[]int{1, 2, 3}, 1, true},
		{[]int{0, 2, 3}, 1, true},
		{[]int{0, 1}, 1, false},
		{[]int{0, 1, 2, 3}, 1, false},
		{[]int{0, 1, 1}, 1, false},
		{[]int{0, 0, 1}, 1, false},
		{[]int{0, 2, 1}, 1, false},
		{[]int{3, 2, 1}, 1, false},
		{[]int{1, 2, 4}, 1, false},
		{[]int{-1, 0, 1}, 1, false},
		{[]int{math.MinInt, 0, 1}, 1, false},
		{[]int{0, 1, math.MaxInt}, 1, false},
		{[]int{0, 1, 1 << 32}, 1, false},
		{[]int{0, 1, 2}, 2, false},
		{[]int{0, 1, 2, 3, 4}, 1, false},
		{[]int{0, 1, 2, 3, 4}, 2, true},
		{[]int{2, 3, 4, 5, 6}, 2, true},
		{[]int{2, 3, 4, 5, 7}, 2, false},
		{[]int{0, 1, 2, 4, 6, 7, 9}, 3, true},
		{[]int{0, 1, 2, 4, 6, 7, 10}, 3, false},
		{[]int{4, 5, 6, 7, 8, 9, 10, 11, 12}, 4, true},
		{[]int{4, 5, 6, 7, 8, 9, 10, 11, 13}, 4, false},
		{[]int{0, 1, 2, 3, 4, 5, 6, 7, 8, 9, 10}, 5, false},
		{nil, 1, false},
	} {
		rises(t, votes(c.nodes...), c.f, c.want)
	}
}

// P4.2: of all sets of nodes, ascending, those rise that have exactly the quorum and no node too great.
func TestRisingAll(t *testing.T) {
	for f := 1; f <= api.MaxF; f++ {
		for mask := range 1 << (top + 2) {
			nodes := picked(mask)
			want := len(nodes) == 2*f+1 && mask < 1<<(3*f+1)
			if got := ballot.Rising(votes(nodes...), f); got != want {
				t.Fatalf("Rising of %v with f %d = %v; want %v", nodes, f, got, want)
			}
		}
	}
}

// P4.2: a list that rises does no more once one of its votes is at any other place, or is of a node that is none or was there.
func TestRisingSpoilt(t *testing.T) {
	for f := 1; f <= api.MaxF; f++ {
		for first := range f + 1 {
			var nodes []int
			for i := range 2*f + 1 {
				nodes = append(nodes, first+i)
			}
			rises(t, votes(nodes...), f, true)
			for i := range nodes {
				for j := range i {
					other := slices.Clone(nodes)
					other[i], other[j] = other[j], other[i]
					rises(t, votes(other...), f, false)
					other = slices.Clone(nodes)
					other[i] = nodes[j]
					rises(t, votes(other...), f, false)
				}
				for _, bad := range append(far(), 3*f+1, 3*f+2, 13, 14) {
					other := slices.Clone(nodes)
					other[i] = bad
					rises(t, votes(other...), f, false)
				}
			}
			rises(t, votes(nodes...)[1:], f, false)
			rises(t, votes(append(nodes, 3*f)...), f, false)
		}
	}
}

// P4.2: nothing rises with an f that may not be, not even the empty list, though Quorum is 0 then.
func TestRisingOutside(t *testing.T) {
	for _, f := range append(far(), 0, api.MaxF+1, api.MaxF+2) {
		rises(t, nil, f, false)
		rises(t, []api.Vote{}, f, false)
		for size := range 20 {
			var nodes []int
			for node := range size {
				nodes = append(nodes, node)
			}
			rises(t, votes(nodes...), f, false)
		}
	}
}

// P4.2: seals do not matter for the form of a list, nor for what two lists have in common.
func TestSeals(t *testing.T) {
	for _, seal := range []int{0, 1, -1, 7, 1 << 40, math.MinInt, math.MaxInt} {
		l := []api.Vote{{Node: 0, Seal: seal}, {Node: 1, Seal: 7}, {Node: 3, Seal: seal}}
		rises(t, l, 1, true)
		meets(t, l, votes(0, 1, 2, 3), []int{0, 1, 3})
		meets(t, []api.Vote{{Node: seal, Seal: 5}}, []api.Vote{{Node: 5, Seal: seal}}, nil)
	}
}

// meets checks Common, whichever list comes first.
func meets(t *testing.T, a, b []api.Vote, want []int) {
	t.Helper()
	if got := ballot.Common(a, b); !slices.Equal(got, want) {
		t.Errorf("Common(%v, %v) = %v; want %v", a, b, got, want)
	}
	if got := ballot.Common(b, a); !slices.Equal(got, want) {
		t.Errorf("Common(%v, %v) = %v; want %v", b, a, got, want)
	}
}

// P4.2: single pairs of lists, which need be of no form.
func TestCommon(t *testing.T) {
	for _, c := range []struct{ a, b, want []int }{
		{nil, nil, nil},
		{[]int{1}, nil, nil},
		{[]int{}, []int{0}, nil},
		{[]int{1}, []int{2}, nil},
		{[]int{1}, []int{1}, []int{1}},
		{[]int{0, 1, 2}, []int{1, 2, 3}, []int{1, 2}},
		{[]int{12, 0, 5}, []int{5, 12, 0}, []int{0, 5, 12}},
		{[]int{9, 3, 9, 3, 9}, []int{3, 3, 9, 1}, []int{3, 9}},
		{[]int{4, 4}, []int{4}, []int{4}},
		{[]int{4, 4}, []int{5, 5}, nil},
		{[]int{0, 1, 2, 3, 4, 5, 6, 7, 8, 9, 10, 11, 12}, []int{12, 11, 10, 9, 8, 7, 6, 5, 4, 3, 2, 1, 0}, []int{0, 1, 2, 3, 4, 5, 6, 7, 8, 9, 10, 11, 12}},
	} {
		meets(t, votes(c.a...), votes(c.b...), c.want)
	}
}

// P4.2: the votes' nodes are compared as they stand, whatever numbers they are.
func TestCommonAnyNumber(t *testing.T) {
	meets(t, votes(3, 1, 3, 7, -2), votes(-2, 7, 3, 3, 9), []int{-2, 3, 7})
	meets(t, votes(math.MaxInt, 13, math.MinInt, 5, 13), votes(13, math.MinInt, 6, math.MaxInt), []int{math.MinInt, 13, math.MaxInt})
	for _, other := range append(far(), 13, 14, 15, 16, 31, 32, 63) {
		meets(t, votes(other), votes(other), []int{other})
		want := []int{0, 12, other}
		slices.Sort(want)
		meets(t, votes(other, 12, 0), votes(0, other, 12, other), want)
		for node := range top + 1 {
			meets(t, votes(other), votes(node), nil)
		}
		for _, next := range []int{other - 1, other + 1, -other - 1, other ^ 1<<16, other ^ 1<<32, other ^ math.MinInt} {
			meets(t, votes(other), votes(next), nil)
		}
	}
}

// P4.2: any two lists have in common what the sentence says, looked for number by number.
func TestCommonAny(t *testing.T) {
	const lo, hi = -4, 20
	r := rand.New(rand.NewPCG(4, 3))
	nodes := func() []int {
		l := make([]int, r.IntN(20))
		for i := range l {
			l[i] = lo + r.IntN(hi-lo+1)
		}
		return l
	}
	for range 20000 {
		a, b := nodes(), nodes()
		var want []int
		for node := lo; node <= hi; node++ {
			if slices.Contains(a, node) && slices.Contains(b, node) {
				want = append(want, node)
			}
		}
		meets(t, votes(a...), votes(b...), want)
	}
}

// P4.2: lists that are handed in stay as they are, what lies behind them is not looked at, and each answer is new.
func TestMemory(t *testing.T) {
	a, b := votes(3, 1, 2, 5, 6), votes(6, 5, 3, 3, 2)
	heldA, heldB := slices.Clone(a), slices.Clone(b)
	got := ballot.Common(a[:3], b[:4])
	if !slices.Equal(got, []int{3}) {
		t.Errorf("Common of lists with more behind them = %v; want [3]", got)
	}
	for i := range got[:cap(got)] {
		got[:cap(got)][i] = 77
	}
	if !slices.Equal(a, heldA) || !slices.Equal(b, heldB) {
		t.Errorf("Common changed its arguments to %v and %v", a, b)
	}
	if got := ballot.Common(a[:3], b[:4]); !slices.Equal(got, []int{3}) {
		t.Errorf("Common = %v once an earlier answer was written to; want [3]", got)
	}

	l := votes(0, 1, 2, 3, 4)
	held := slices.Clone(l)
	rises(t, l[:3], 1, true)
	rises(t, l[:2], 1, false)
	rises(t, l[:3], 2, false)
	rises(t, l[:0], 1, false)
	if !slices.Equal(l, held) {
		t.Errorf("Rising changed its argument to %v", l)
	}
}

// P4.3: any two lists that rise have at least Weak(f) nodes in common, and some have no more.
func TestTwoQuorums(t *testing.T) {
	for f := 1; f <= api.MaxF; f++ {
		var lists [][]api.Vote
		for mask := range 1 << ballot.Nodes(f) {
			if l := votes(picked(mask)...); ballot.Rising(l, f) {
				lists = append(lists, l)
			}
		}
		least := math.MaxInt
		for _, a := range lists {
			for _, b := range lists {
				least = min(least, len(ballot.Common(a, b)))
			}
		}
		if least != ballot.Weak(f) {
			t.Errorf("f %d: the %d lists that rise have at least %d nodes in common, two by two; want %d", f, len(lists), least, ballot.Weak(f))
		}
	}
}
