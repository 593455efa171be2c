package change_test

import (
	"math"
	"math/bits"
	"math/rand/v2"
	"slices"
	"testing"

	"psephos/api"
	"psephos/change"
)

// cut are numbers that are outside every range, of which some would be inside it if they were cut.
func cut() []int {
	return []int{
		math.MinInt, math.MinInt + 1, math.MinInt + 4, -1 << 32, -1<<32 + 4, -256, -252, -64, -16, -5, -4, -3, -2, -1,
		64, 65, 255, 256, 257, 260, 261, 1 << 16, 1<<16 + 4, 1 << 32, 1<<32 + 1, 1<<32 + 4, 1<<32 + 5, math.MaxInt - 1, math.MaxInt,
	}
}

// absent returns numbers that are no node with this f.
func absent(f int) []int {
	l := append(cut(), api.FirstClient, api.FirstClient+1)
	for node := 3*f + 1; node <= 3*api.MaxF+4; node++ {
		l = append(l, node)
	}
	return l
}

// never are numbers that are no view which a node can leave.
func never() []int {
	return append(cut(), api.MaxView, api.MaxView+1, api.MaxView+2, 2*api.MaxView)
}

// anyView are all views that a node can leave, and other numbers.
func anyView() []int {
	return append(upTo(api.MaxView), never()...)
}

// upTo returns the numbers from 0 to n - 1.
func upTo(n int) []int {
	var l []int
	for i := range n {
		l = append(l, i)
	}
	return l
}

// among returns the nodes whose bits are in set, ascending.
func among(set int) []int {
	var l []int
	for node := 0; set>>node != 0; node++ {
		if set>>node&1 == 1 {
			l = append(l, node)
		}
	}
	return l
}

// seal is the seal by which the node votes here.
func seal(node, view int) int {
	return 1000*view + 10*node + 3
}

// of are the votes for this view by these nodes.
func of(view int, nodes ...int) []api.Vote {
	var l []api.Vote
	for _, node := range nodes {
		l = append(l, api.Vote{Node: node, Seal: seal(node, view)})
	}
	return l
}

// fresh returns a Votes of this size.
func fresh(t *testing.T, f int) *change.Votes {
	t.Helper()
	v, err := change.New(f)
	if v == nil || err != api.OK {
		t.Fatalf("New(%d) = %v, %d; want a Votes, %d", f, v, err, api.OK)
	}
	return v
}

// put lets each of the nodes vote for leaving the view.
func put(t *testing.T, v *change.Votes, view int, nodes ...int) {
	t.Helper()
	for _, node := range nodes {
		if !v.Put(node, view, seal(node, view)) {
			t.Errorf("Put(%d, %d, ..) = false; want true", node, view)
		}
	}
}

// refused checks that the node can vote for leaving none of these views, with whichever seal.
func refused(t *testing.T, v *change.Votes, node int, views ...int) {
	t.Helper()
	for _, view := range views {
		for _, n := range []int{seal(node, view), 0, 77} {
			if v.Put(node, view, n) {
				t.Errorf("Put(%d, %d, %d) = true; want false", node, view, n)
			}
		}
	}
}

// enough checks that there are these votes for the view, or not enough, if there are none.
func enough(t *testing.T, v *change.Votes, view int, want ...api.Vote) {
	t.Helper()
	if got, ok := v.Enough(view); !slices.Equal(got, want) || ok != (len(want) > 0) {
		t.Errorf("Enough(%d) = %v, %v; want %v, %v", view, got, ok, want, len(want) > 0)
	}
}

// drop checks what Drop returns.
func drop(t *testing.T, v *change.Votes, below, want int) {
	t.Helper()
	if got := v.Drop(below); got != want {
		t.Errorf("Drop(%d) = %d; want %d", below, got, want)
	}
}

// A cast is what a node has voted for.
type cast struct{ view, seal int }

// A model is who has which vote, with this f.
type model struct {
	f    int
	cast map[int]cast
}

// sized returns the model of a Votes without votes.
func sized(f int) model {
	return model{f, map[int]cast{}}
}

// with returns the model in which these nodes have a vote for this view besides.
func (m model) with(view int, nodes ...int) model {
	m = m.clone()
	for _, node := range nodes {
		m.cast[node] = cast{view, seal(node, view)}
	}
	return m
}

func (m model) clone() model {
	c := sized(m.f)
	for node, v := range m.cast {
		c.cast[node] = v
	}
	return c
}

// put does what Put does, and returns what it should return.
func (m model) put(node int, c cast) bool {
	if node < 0 || node > 3*m.f || c.view < 0 || c.view >= api.MaxView {
		return false
	}
	if old, ok := m.cast[node]; ok && old.view >= c.view {
		return false
	}
	m.cast[node] = c
	return true
}

// drop does what Drop does, and returns what it should return.
func (m model) drop(below int) int {
	n := 0
	for node, c := range m.cast {
		if c.view < below {
			delete(m.cast, node)
			n++
		}
	}
	return n
}

// enough returns the votes that decide for this view, if there are as many.
func (m model) enough(view int) []api.Vote {
	var l []api.Vote
	for node, c := range m.cast {
		if c.view == view {
			l = append(l, api.Vote{Node: node, Seal: c.seal})
		}
	}
	if len(l) <= 2*m.f {
		return nil
	}
	slices.SortFunc(l, func(a, b api.Vote) int { return a.Node - b.Node })
	return l[:2*m.f+1]
}

// holds checks that v tells just what is in the model, for every number that is a node or a view, and for those beside them.
func holds(t *testing.T, v *change.Votes, m model) {
	t.Helper()
	for node := -2; node <= 3*api.MaxF+4; node++ {
		want, has := m.cast[node]
		if got, ok := v.View(node); got != want.view || ok != has {
			t.Errorf("View(%d) = %d, %v; want %d, %v", node, got, ok, want.view, has)
		}
	}
	for view := -2; view <= api.MaxView+1; view++ {
		enough(t, v, view, m.enough(view)...)
	}
}

// P16.1: a new Votes has no votes; there is one for each f.
func TestNew(t *testing.T) {
	for f := 1; f <= api.MaxF; f++ {
		v := fresh(t, f)
		holds(t, v, sized(f))
		drop(t, v, math.MaxInt, 0)
	}
}

// P16.1: another f is an error, and there is no Votes.
func TestNewOutside(t *testing.T) {
	for _, f := range append(cut(), 0, api.MaxF+1, api.MaxF+2, 3*api.MaxF) {
		if v, err := change.New(f); v != nil || err != api.ErrArg {
			t.Errorf("New(%d) = %v, %d; want nil, %d", f, v, err, api.ErrArg)
		}
	}
}

// P16.1: the chapter's example.
func TestExample(t *testing.T) {
	v := fresh(t, 1)
	put(t, v, 0, 0, 1)
	enough(t, v, 0)
	put(t, v, 0, 3)
	enough(t, v, 0, of(0, 0, 1, 3)...)
}

// P16.1: each node that there is can vote for leaving each view but the last one.
func TestPut(t *testing.T) {
	for f := 1; f <= api.MaxF; f++ {
		for view := range api.MaxView {
			for node := range 3*f + 1 {
				v := fresh(t, f)
				put(t, v, view, node)
				holds(t, v, sized(f).with(view, node))
			}
		}
	}
}

// P16.1: a vote for the same view or a lesser one is refused, and the first one stays with its seal.
func TestPutAgain(t *testing.T) {
	for f := 1; f <= api.MaxF; f++ {
		for view := range api.MaxView {
			v, m := fresh(t, f), sized(f)
			for node := range 3*f + 1 {
				put(t, v, view, node)
				m = m.with(view, node)
				refused(t, v, node, upTo(view+1)...)
				holds(t, v, m)
			}
		}
	}
}

// P16.1: a vote for a greater view takes the place of the one before, which counts no more.
func TestPutGreater(t *testing.T) {
	for view := range api.MaxView {
		for greater := view + 1; greater < api.MaxView; greater++ {
			v := fresh(t, 1)
			put(t, v, view, 0, 1, 3)
			put(t, v, greater, 1)
			m := sized(1).with(view, 0, 3).with(greater, 1)
			holds(t, v, m)
			refused(t, v, 1, upTo(greater+1)...)
			put(t, v, view, 2)
			m = m.with(view, 2)
			holds(t, v, m)
			put(t, v, greater, 3, 2)
			holds(t, v, m.with(greater, 3, 2))
			drop(t, v, math.MaxInt, 4)
		}
	}
}

// P16.1: what is no node and what is no view to leave is refused, in an empty Votes as in a full one, and changes nothing.
func TestPutOutside(t *testing.T) {
	for f := 1; f <= api.MaxF; f++ {
		v, m := fresh(t, f), sized(f)
		for range 2 {
			for _, node := range absent(f) {
				refused(t, v, node, anyView()...)
			}
			for node := range 3*f + 1 {
				refused(t, v, node, never()...)
			}
			holds(t, v, m)
			if len(m.cast) == 0 {
				put(t, v, 4, upTo(3*f+1)...)
				m = m.with(4, upTo(3*f+1)...)
			}
		}
	}
}

// P16.1: a number that is no node has no vote, in an empty Votes as in a full one.
func TestViewOutside(t *testing.T) {
	for f := 1; f <= api.MaxF; f++ {
		empty, full := fresh(t, f), fresh(t, f)
		put(t, full, 5, upTo(3*f+1)...)
		for _, v := range []*change.Votes{empty, full} {
			for _, node := range absent(f) {
				if got, ok := v.View(node); ok || got != 0 {
					t.Errorf("View(%d) = %d, %v; want 0, false", node, got, ok)
				}
			}
		}
	}
}

// P16.1: a number that is no view to leave has no votes, in an empty Votes as in full ones.
func TestEnoughOutside(t *testing.T) {
	for f := 1; f <= api.MaxF; f++ {
		empty, low, high := fresh(t, f), fresh(t, f), fresh(t, f)
		put(t, low, 0, upTo(3*f+1)...)
		put(t, high, api.MaxView-1, upTo(3*f+1)...)
		for _, v := range []*change.Votes{empty, low, high} {
			for _, view := range never() {
				enough(t, v, view)
			}
		}
	}
}

// P16.1: a seal is any number, and is the one that is told.
func TestAnySeal(t *testing.T) {
	for _, n := range append(cut(), 0, 1<<40-1, 1<<40) {
		v := fresh(t, 1)
		want := []api.Vote{{Node: 0, Seal: n}, {Node: 1, Seal: 2}, {Node: 3, Seal: n}}
		for _, c := range want {
			if !v.Put(c.Node, 6, c.Seal) || v.Put(c.Node, 6, 1) {
				t.Errorf("Put(%d, 6, %d) is not taken just once", c.Node, c.Seal)
			}
		}
		enough(t, v, 6, want...)
	}
}

// P16.1: whichever nodes voted for a view, in whichever order, and whatever the others voted for, the lowest 2 f + 1 of them
// are told, ascending, if there are as many.
func TestEverySetOfNodes(t *testing.T) {
	r := rand.New(rand.NewPCG(16, 1))
	for f := 1; f <= api.MaxF; f++ {
		for set := range 1 << (3*f + 1) {
			v, m := fresh(t, f), sized(f)
			view := r.IntN(api.MaxView)
			for _, node := range r.Perm(3*f + 1) {
				other := r.IntN(2 * api.MaxView)
				if set>>node&1 == 1 {
					other = view
				} else if other == view || other >= api.MaxView {
					continue
				}
				put(t, v, other, node)
				m = m.with(other, node)
			}
			holds(t, v, m)
			if bits.OnesCount(uint(set)) > 2*f {
				enough(t, v, view, of(view, among(set)[:2*f+1]...)...)
			} else {
				enough(t, v, view)
			}
		}
	}
}

// P16.1: votes for other views, greater ones too, don't count for a view.
func TestViewsApart(t *testing.T) {
	for view := range api.MaxView {
		for other := range api.MaxView {
			if other == view {
				continue
			}
			v := fresh(t, 2)
			put(t, v, view, 0, 2, 4, 6)
			put(t, v, other, 1, 3, 5)
			holds(t, v, sized(2).with(view, 0, 2, 4, 6).with(other, 1, 3, 5))
			enough(t, v, view)
			enough(t, v, other)
		}
	}
}

// P16.1: only the votes for lesser views are removed, and are counted; those nodes have none then.
func TestDrop(t *testing.T) {
	for f := 1; f <= api.MaxF; f++ {
		for below := -1; below <= api.MaxView+1; below++ {
			v, m := fresh(t, f), sized(f)
			gone := 0
			for node := range 3*f + 1 {
				// The greatest node has no vote; the others have theirs for the views from below - 1 on, in a circle.
				if view := (below - 1 + node + api.MaxView) % api.MaxView; node < 3*f {
					put(t, v, view, node)
					if view < below {
						gone++
					} else {
						m = m.with(view, node)
					}
				}
			}
			drop(t, v, below, gone)
			holds(t, v, m)
			drop(t, v, below, 0)
			holds(t, v, m)
		}
	}
}

// P16.1: Drop takes any number.
func TestDropAnyNumber(t *testing.T) {
	for _, below := range cut() {
		v, m := fresh(t, 1), sized(1)
		drop(t, v, below, 0)
		put(t, v, 0, 0, 1, 2)
		put(t, v, api.MaxView-1, 3)
		if below <= 0 {
			drop(t, v, below, 0)
			m = m.with(0, 0, 1, 2).with(api.MaxView-1, 3)
		} else {
			drop(t, v, below, 4)
		}
		holds(t, v, m)
	}
}

// P16.1: a node whose vote was removed has none, so that it can vote for leaving any view again.
func TestPutAfterDrop(t *testing.T) {
	for view := range api.MaxView {
		v := fresh(t, 1)
		put(t, v, 7, 0, 1, 2)
		put(t, v, 8, 3)
		drop(t, v, 8, 3)
		refused(t, v, 3, upTo(9)...)
		put(t, v, view, 2, 1)
		m := sized(1).with(8, 3).with(view, 2, 1)
		holds(t, v, m)
		refused(t, v, 2, upTo(view+1)...)
		put(t, v, view, 0)
		holds(t, v, m.with(view, 0))
	}
}

// P16.1: a clone has the same votes and the same size; from then on each goes its own way.
func TestClone(t *testing.T) {
	v := fresh(t, 1)
	put(t, v, 3, 0, 2)
	put(t, v, 5, 3)
	other := v.Clone()
	if other == v {
		t.Fatal("Clone() returns the same object")
	}
	before := sized(1).with(3, 0, 2).with(5, 3)
	holds(t, other, before)

	put(t, v, 3, 1)
	put(t, v, 4, 2)
	holds(t, other, before)
	after := before.with(3, 1).with(4, 2)
	holds(t, v, after)

	put(t, other, 6, 0)
	refused(t, other, 2, 0, 3)
	drop(t, other, 6, 2)
	holds(t, v, after)
	holds(t, other, sized(1).with(6, 0))

	third := v.Clone()
	drop(t, v, 5, 3)
	holds(t, third, after)
	holds(t, v, sized(1).with(5, 3))
	holds(t, other, sized(1).with(6, 0))
}

// P16.1: clones of new ones and of clones have the size of the first one.
func TestCloneOfNewAndOfClone(t *testing.T) {
	for f := 1; f <= api.MaxF; f++ {
		v := fresh(t, f)
		one := v.Clone()
		put(t, one, 1, 3*f)
		two := one.Clone()
		refused(t, two, 3*f+1, upTo(api.MaxView)...)
		put(t, two, 1, upTo(2*f)...)
		holds(t, v, sized(f))
		holds(t, one, sized(f).with(1, 3*f))
		holds(t, two, sized(f).with(1, 3*f).with(1, upTo(2*f)...))
	}
}

// P16.1: two of them have nothing in common.
func TestVotesApart(t *testing.T) {
	v, other := fresh(t, 1), fresh(t, 1)
	put(t, v, 2, 0, 1, 2)
	holds(t, other, sized(1))
	put(t, other, 1, 0)
	drop(t, other, 9, 1)
	holds(t, v, sized(1).with(2, 0, 1, 2))
}

// P16.1: the lists that are returned are new ones: who changes them changes nothing in the votes, a clone or other lists.
func TestResults(t *testing.T) {
	v, m := fresh(t, 1), sized(1).with(2, 0, 1, 2, 3)
	put(t, v, 2, 0, 1, 2, 3)
	other := v.Clone()
	kept, _ := v.Enough(2)
	for range 2 {
		l, _ := v.Enough(2)
		clear(l[:cap(l)])
		_ = append(l[:1], api.Vote{Node: 9}, api.Vote{Node: 9})
		holds(t, v, m)
		holds(t, other, m)
	}
	drop(t, v, 3, 4)
	put(t, v, 5, 0, 1, 2, 3)
	if !slices.Equal(kept, of(2, 0, 1, 2)) {
		t.Errorf("the list became %v; want %v", kept, of(2, 0, 1, 2))
	}
}

// step does the same to the votes and to the model, whatever r brings, and checks that they answer alike.
func step(t *testing.T, r *rand.Rand, v *change.Votes, m model) {
	t.Helper()
	node, c := r.IntN(3*m.f+3)-1, cast{r.IntN(4), r.IntN(100)}
	// Most often the views are few, so that there are enough votes for one at times.
	if r.IntN(20) == 0 {
		c.view = r.IntN(api.MaxView+3) - 1
	}
	if got, want := v.Put(node, c.view, c.seal), m.put(node, c); got != want {
		t.Errorf("Put(%d, %d, %d) = %v; want %v", node, c.view, c.seal, got, want)
	}
	if r.IntN(30) == 0 {
		below := r.IntN(api.MaxView + 3)
		drop(t, v, below, m.drop(below))
	}
}

// P16.1: any calls, on votes and on clones of them, answer as the model.
func TestAnyCalls(t *testing.T) {
	r := rand.New(rand.NewPCG(16, 2))
	for round := range 80 {
		f := 1 + round%api.MaxF
		votes, models := []*change.Votes{fresh(t, f)}, []model{sized(f)}
		for range 150 {
			i := r.IntN(len(votes))
			step(t, r, votes[i], models[i])
			if r.IntN(50) == 0 {
				votes, models = append(votes, votes[i].Clone()), append(models, models[i].clone())
			}
			for j := range votes {
				holds(t, votes[j], models[j])
			}
		}
	}
}
