package slot_test

import (
	"math"
	"math/bits"
	"math/rand/v2"
	"slices"
	"testing"

	"psephos/api"
	"psephos/slot"
)

// cut are numbers that are outside every range, of which some would be inside it if they were cut.
func cut() []int {
	return []int{
		math.MinInt, math.MinInt + 1, math.MinInt + 4, -1 << 32, -1<<32 + 4, -256, -252, -64, -5, -4, -3, -2, -1, 64, 65, 255,
		256, 257, 260, 261, 1 << 16, 1<<16 + 4, 1 << 32, 1<<32 + 1, 1<<32 + 4, 1<<32 + 5, math.MaxInt - 1, math.MaxInt,
	}
}

// kinds are the two kinds of votes that a slot has.
func kinds() []int {
	return []int{api.Prepare, api.Commit}
}

// others returns the numbers that are no kind of vote.
func others() []int {
	return append(cut(), 0, api.Request, api.Propagate, api.PrePrepare, api.Change, api.ViewChange, api.NewView, api.Proof,
		api.Reply, api.Reply+1)
}

// absent returns numbers that are no node with this f.
func absent(f int) []int {
	l := append(cut(), api.FirstClient, api.FirstClient+1)
	for node := 3*f + 1; node <= 3*api.MaxF+4; node++ {
		l = append(l, node)
	}
	return l
}

// req is a request, one of many.
func req(client, time int) api.Req {
	return api.Req{Client: client, Time: time, Op: api.Op{Kind: api.Put, Key: 3, Val: 4}, Seal: 5}
}

// kin are a batch and others that differ from it, and from each other, in one thing each.
func kin() [][]api.Req {
	second := req(1, 7)
	l := [][]api.Req{{req(0, 2), second}}
	for range 6 {
		l = append(l, []api.Req{req(0, 2), second})
	}
	l[1][1].Client++
	l[2][1].Time++
	l[3][1].Op.Kind++
	l[4][1].Op.Key++
	l[5][1].Op.Val++
	l[6][1].Seal++
	return append(l, []api.Req{second, req(0, 2)}, []api.Req{req(0, 2)}, []api.Req{second}, []api.Req{req(0, 2), req(0, 2)},
		[]api.Req{req(0, 2), second, second}, []api.Req{req(0, 2), second, {}}, []api.Req{{}}, nil)
}

// seal is the seal by which the node votes here.
func seal(kind, node int) int {
	return 1000*kind + 10*node + 3
}

// of are the votes of this kind by these nodes.
func of(kind int, nodes ...int) []api.Vote {
	var l []api.Vote
	for _, node := range nodes {
		l = append(l, api.Vote{Node: node, Seal: seal(kind, node)})
	}
	return l
}

// among returns the nodes whose bits are in set, ascending.
func among(set int) []int {
	var l []int
	for node := 0; set>>node != 0; node++ {
		if set>>node&1 == 1 {
			l = append(l, node)
		}
	}
	return l
}

// fresh returns a slot of this size.
func fresh(t *testing.T, f int) *slot.Slot {
	t.Helper()
	s, err := slot.New(f)
	if s == nil || err != api.OK {
		t.Fatalf("New(%d) = %v, %d; want a slot, %d", f, s, err, api.OK)
	}
	return s
}

// pre checks what Pre returns.
func pre(t *testing.T, s *slot.Slot, batch []api.Req, want bool) {
	t.Helper()
	if got := s.Pre(batch); got != want {
		t.Errorf("Pre(%v) = %v; want %v", batch, got, want)
	}
}

// vote lets each of the nodes vote for the batch, with the seals of before.
func vote(t *testing.T, s *slot.Slot, kind int, batch []api.Req, nodes ...int) {
	t.Helper()
	for _, node := range nodes {
		if !s.Vote(kind, node, seal(kind, node), batch) {
			t.Errorf("Vote(%d, %d, ..) = false; want true", kind, node)
		}
	}
}

// refused checks that the slot takes no such vote, for whichever batch.
func refused(t *testing.T, s *slot.Slot, kind, node int, batches ...[]api.Req) {
	t.Helper()
	for _, batch := range batches {
		if s.Vote(kind, node, 77, batch) {
			t.Errorf("Vote(%d, %d, 77, %v) = true; want false", kind, node, batch)
		}
	}
}

// A state is what a slot should tell.
type state struct {
	pre                 bool
	chosen              []api.Req
	prepares, commits   []int // the nodes that have such a vote, ascending
	prepared, committed []api.Vote
	batch               []api.Req // the one that is committed
}

// holds checks that the slot tells just this.
func holds(t *testing.T, s *slot.Slot, want state) {
	t.Helper()
	if got, ok := s.Chosen(); !slices.Equal(got, want.chosen) || ok != want.pre {
		t.Errorf("Chosen() = %v, %v; want %v, %v", got, ok, want.chosen, want.pre)
	}
	for node := -1; node <= 3*api.MaxF+4; node++ {
		if got := s.Voted(api.Prepare, node); got != slices.Contains(want.prepares, node) {
			t.Errorf("Voted(Prepare, %d) = %v; those who voted are %v", node, got, want.prepares)
		}
		if got := s.Voted(api.Commit, node); got != slices.Contains(want.commits, node) {
			t.Errorf("Voted(Commit, %d) = %v; those who voted are %v", node, got, want.commits)
		}
	}
	prepared(t, s, want.prepared)
	committed(t, s, want.batch, want.committed)
}

// prepared checks that the slot is prepared by these votes, or that it is not, if there are none.
func prepared(t *testing.T, s *slot.Slot, want []api.Vote) {
	t.Helper()
	if got, ok := s.Prepared(); !slices.Equal(got, want) || ok != (len(want) > 0) {
		t.Errorf("Prepared() = %v, %v; want %v, %v", got, ok, want, len(want) > 0)
	}
}

// committed checks that this batch is committed by these votes, or that none is, if there are no votes.
func committed(t *testing.T, s *slot.Slot, batch []api.Req, want []api.Vote) {
	t.Helper()
	got, votes, ok := s.Committed()
	if !slices.Equal(got, batch) || !slices.Equal(votes, want) || ok != (len(want) > 0) {
		t.Errorf("Committed() = %v, %v, %v; want %v, %v, %v", got, votes, ok, batch, want, len(want) > 0)
	}
}

// P14.1: a new slot has nothing chosen and no votes; there is one for each f.
func TestNew(t *testing.T) {
	for f := 1; f <= api.MaxF; f++ {
		holds(t, fresh(t, f), state{})
	}
}

// P14.1: another f is an error, and there is no slot.
func TestNewOutside(t *testing.T) {
	for _, f := range append(cut(), 0, api.MaxF+1, api.MaxF+2, 3*api.MaxF) {
		if s, err := slot.New(f); s != nil || err != api.ErrArg {
			t.Errorf("New(%d) = %v, %d; want nil, %d", f, s, err, api.ErrArg)
		}
	}
}

// P14.2: the chapter's example.
func TestExample(t *testing.T) {
	s, batch := fresh(t, 1), kin()[0]
	pre(t, s, batch, true)
	vote(t, s, api.Prepare, batch, 0, 1, 2)
	prepared(t, s, of(api.Prepare, 0, 1, 2))
}

// P14.1: the first batch is the chosen one, the null batch too; no other one, and not the same one either, is chosen then.
func TestPre(t *testing.T) {
	for _, batch := range append(kin(), []api.Req{}) {
		s := fresh(t, 1)
		pre(t, s, batch, true)
		holds(t, s, state{pre: true, chosen: batch})
		for _, other := range append(kin(), []api.Req{}) {
			pre(t, s, other, false)
			holds(t, s, state{pre: true, chosen: batch})
		}
	}
}

// P14.1: no batch is refused: neither its requests' fields nor its length nor its order matter.
func TestAnyBatch(t *testing.T) {
	long := make([]api.Req, api.MaxList+1)
	for i, n := range cut() {
		long[i] = api.Req{Client: n, Time: n, Op: api.Op{Kind: n, Key: n, Val: n}, Seal: n}
	}
	s := fresh(t, 1)
	pre(t, s, long, true)
	vote(t, s, api.Prepare, long, 0, 2, 3)
	vote(t, s, api.Commit, long, 0, 1, 3)
	holds(t, s, state{
		true, long, []int{0, 2, 3}, []int{0, 1, 3}, of(api.Prepare, 0, 2, 3), of(api.Commit, 0, 1, 3), long,
	})
}

// P14.1: each node has one vote of each kind; a second one, for whichever batch and with whichever seal, changes nothing.
func TestVote(t *testing.T) {
	batch := kin()[0]
	for f := 1; f <= api.MaxF; f++ {
		for _, kind := range kinds() {
			s, want := fresh(t, f), state{pre: true, chosen: batch}
			pre(t, s, batch, true)
			for node := range 3*f + 1 {
				vote(t, s, kind, batch, node)
				refused(t, s, kind, node, kin()...)
				nodes := among(1<<(node+1) - 1)
				first := of(kind, nodes[:min(node+1, 2*f+1)]...)
				if len(first) <= 2*f {
					first = nil
				}
				if kind == api.Prepare {
					want.prepares, want.prepared = nodes, first
				} else if want.commits, want.committed = nodes, first; first != nil {
					want.batch = batch
				}
				holds(t, s, want)
			}
		}
	}
}

// P14.1: a node's votes of the two kinds are two votes, also where they are for other batches.
func TestKindsApart(t *testing.T) {
	one, two := kin()[0], kin()[1]
	for i, kind := range kinds() {
		s := fresh(t, 1)
		pre(t, s, one, true)
		vote(t, s, kind, one, 0, 1, 2)
		want := state{pre: true, chosen: one, prepares: []int{0, 1, 2}, prepared: of(api.Prepare, 0, 1, 2)}
		if kind == api.Commit {
			want = state{pre: true, chosen: one, commits: []int{0, 1, 2}, committed: of(api.Commit, 0, 1, 2), batch: one}
		}
		holds(t, s, want)
		vote(t, s, kinds()[1-i], two, 0, 1, 2, 3)
		if kind == api.Prepare {
			want.commits, want.committed, want.batch = []int{0, 1, 2, 3}, of(api.Commit, 0, 1, 2), two
		} else {
			want.prepares = []int{0, 1, 2, 3}
		}
		holds(t, s, want)
	}
}

// P14.1: a kind that is no vote and a node that does not exist are refused, and change nothing.
func TestVoteOutside(t *testing.T) {
	batch := kin()[0]
	for f := 1; f <= api.MaxF; f++ {
		s := fresh(t, f)
		pre(t, s, batch, true)
		want := state{pre: true, chosen: batch}
		for _, kind := range others() {
			for node := -1; node <= 3*f+1; node++ {
				refused(t, s, kind, node, batch, nil)
			}
		}
		for _, node := range absent(f) {
			for _, kind := range append(kinds(), others()...) {
				refused(t, s, kind, node, batch, nil)
			}
		}
		holds(t, s, want)
		for node := range 3*f + 1 {
			vote(t, s, api.Prepare, batch, node)
			vote(t, s, api.Commit, nil, node)
		}
		for _, kind := range others() {
			refused(t, s, kind, 0, batch)
		}
		for _, node := range absent(f) {
			refused(t, s, api.Prepare, node, batch)
			refused(t, s, api.Commit, node, nil)
		}
		all := among(1<<(3*f+1) - 1)
		holds(t, s, state{
			true, batch, all, all, of(api.Prepare, all[:2*f+1]...), of(api.Commit, all[:2*f+1]...), nil,
		})
	}
}

// P14.1: no other kind and no other number than a node's has a vote, in an empty slot as in a full one.
func TestVotedOutside(t *testing.T) {
	for f := 1; f <= api.MaxF; f++ {
		empty, full := fresh(t, f), fresh(t, f)
		for _, kind := range kinds() {
			vote(t, full, kind, nil, among(1<<(3*f+1)-1)...)
		}
		for _, s := range []*slot.Slot{empty, full} {
			for _, node := range absent(f) {
				for _, kind := range append(kinds(), others()...) {
					if s.Voted(kind, node) {
						t.Errorf("Voted(%d, %d) = true; want false", kind, node)
					}
				}
			}
			for _, kind := range others() {
				for node := range 3*f + 1 {
					if s.Voted(kind, node) {
						t.Errorf("Voted(%d, %d) = true; want false", kind, node)
					}
				}
			}
		}
	}
}

// P14.1: a seal is any number, and is the one that is told.
func TestAnySeal(t *testing.T) {
	for _, n := range append(cut(), 0, 1<<40-1, 1<<40) {
		s := fresh(t, 1)
		pre(t, s, nil, true)
		want := []api.Vote{{Node: 0, Seal: n}, {Node: 1, Seal: 2}, {Node: 3, Seal: n}}
		for _, kind := range kinds() {
			for _, v := range want {
				if !s.Vote(kind, v.Node, v.Seal, nil) || s.Vote(kind, v.Node, 1, nil) {
					t.Errorf("Vote(%d, %d, %d, nil) is not taken just once", kind, v.Node, v.Seal)
				}
			}
		}
		prepared(t, s, want)
		committed(t, s, nil, want)
	}
}

// P14.2: whichever nodes voted for a batch, and whatever the others voted for, it is prepared and committed by the lowest
// 2 f + 1 of them, if there are as many.
func TestEverySetOfNodes(t *testing.T) {
	batch, rest := kin()[0], kin()[1:]
	r := rand.New(rand.NewPCG(14, 1))
	for f := 1; f <= api.MaxF; f++ {
		for set := range 1 << (3*f + 1) {
			s := fresh(t, f)
			want := state{pre: true, chosen: batch}
			for _, node := range r.Perm(3*f + 1) {
				if set>>node&1 == 1 {
					vote(t, s, api.Prepare, batch, node)
					vote(t, s, api.Commit, batch, node)
				} else if r.IntN(2) == 0 {
					// Each of the others votes for a batch of its own, so that no other one can be committed.
					vote(t, s, api.Prepare, rest[node], node)
					vote(t, s, api.Commit, rest[node], node)
				} else {
					continue
				}
				want.prepares = append(want.prepares, node)
			}
			pre(t, s, batch, true)
			slices.Sort(want.prepares)
			want.commits = want.prepares
			if bits.OnesCount(uint(set)) > 2*f {
				nodes := among(set)[:2*f+1]
				want.prepared, want.committed, want.batch = of(api.Prepare, nodes...), of(api.Commit, nodes...), batch
			}
			holds(t, s, want)
		}
	}
}

// P14.2: a slot in which nothing is chosen is not prepared, the null batch not either; it is when that batch is chosen.
func TestPreparedNeedsChosen(t *testing.T) {
	for _, batch := range kin() {
		for _, other := range kin() {
			s := fresh(t, 1)
			vote(t, s, api.Prepare, batch, 3, 2, 1, 0)
			holds(t, s, state{prepares: []int{0, 1, 2, 3}})
			pre(t, s, other, true)
			want := state{pre: true, chosen: other, prepares: []int{0, 1, 2, 3}}
			if slices.Equal(batch, other) {
				want.prepared = of(api.Prepare, 0, 1, 2)
			}
			holds(t, s, want)
		}
	}
}

// P14.2: a batch is committed whether it is chosen, another one is, or none.
func TestCommittedNeedsNoChosen(t *testing.T) {
	for _, batch := range kin() {
		for _, other := range kin() {
			s := fresh(t, 1)
			vote(t, s, api.Commit, batch, 3, 1)
			holds(t, s, state{commits: []int{1, 3}})
			vote(t, s, api.Commit, batch, 2)
			want := state{commits: []int{1, 2, 3}, committed: of(api.Commit, 1, 2, 3), batch: batch}
			holds(t, s, want)
			pre(t, s, other, true)
			want.pre, want.chosen = true, other
			holds(t, s, want)
		}
	}
}

// P14.2: votes for batches that differ in any way do not count together.
func TestBatchesApart(t *testing.T) {
	for i, batch := range kin() {
		for j, other := range kin() {
			if i == j {
				continue
			}
			s := fresh(t, 1)
			pre(t, s, batch, true)
			vote(t, s, api.Prepare, batch, 0, 3)
			vote(t, s, api.Commit, batch, 0, 3)
			vote(t, s, api.Prepare, other, 1)
			vote(t, s, api.Commit, other, 1)
			holds(t, s, state{pre: true, chosen: batch, prepares: []int{0, 1, 3}, commits: []int{0, 1, 3}})
			vote(t, s, api.Prepare, batch, 2)
			vote(t, s, api.Commit, batch, 2)
			all, most := []int{0, 1, 2, 3}, []int{0, 2, 3}
			holds(t, s, state{true, batch, all, all, of(api.Prepare, most...), of(api.Commit, most...), batch})
		}
	}
}

// P14.2: a batch is found to be committed also where votes for others come before those for it.
func TestCommittedAfterOthers(t *testing.T) {
	l := kin()
	for f := 1; f <= api.MaxF; f++ {
		s := fresh(t, f)
		for node := range f {
			vote(t, s, api.Commit, l[1+node], node)
		}
		for node := f; node <= 3*f; node++ {
			committed(t, s, nil, nil)
			vote(t, s, api.Commit, l[0], node)
		}
		committed(t, s, l[0], of(api.Commit, among((1<<(2*f+1)-1)<<f)...))
	}
}

// P14.1, P14.2: no batch and an empty one are the same batch.
func TestNullBatch(t *testing.T) {
	s := fresh(t, 1)
	pre(t, s, []api.Req{}, true)
	pre(t, s, nil, false)
	vote(t, s, api.Prepare, nil, 0)
	vote(t, s, api.Prepare, []api.Req{}, 1)
	vote(t, s, api.Prepare, kin()[0][:0], 2)
	vote(t, s, api.Commit, []api.Req{}, 0)
	vote(t, s, api.Commit, nil, 1)
	vote(t, s, api.Commit, kin()[0][:0], 2)
	three := []int{0, 1, 2}
	holds(t, s, state{true, nil, three, three, of(api.Prepare, three...), of(api.Commit, three...), nil})
}

// P14.2: after Reset the slot is as a new one of its size: each batch can be chosen and each node can vote again.
func TestReset(t *testing.T) {
	one, two := kin()[0], kin()[1]
	for f := 1; f <= api.MaxF; f++ {
		s := fresh(t, f)
		s.Reset()
		holds(t, s, state{})
		all := among(1<<(3*f+1) - 1)
		for _, batch := range [][]api.Req{one, two, nil, one} {
			pre(t, s, batch, true)
			vote(t, s, api.Prepare, batch, all...)
			vote(t, s, api.Commit, batch, all...)
			first := all[:2*f+1]
			holds(t, s, state{true, batch, all, all, of(api.Prepare, first...), of(api.Commit, first...), batch})
			s.Reset()
			holds(t, s, state{})
		}
		for _, kind := range kinds() {
			refused(t, s, kind, 3*f+1, one)
			vote(t, s, kind, one, all[f+1:]...)
		}
		holds(t, s, state{prepares: all[f+1:], commits: all[f+1:]})
	}
}

// P14.2: a clone has the same choice and votes, and the same size; from then on each goes its own way.
func TestClone(t *testing.T) {
	one, two := kin()[0], kin()[1]
	s := fresh(t, 1)
	pre(t, s, one, true)
	vote(t, s, api.Prepare, one, 0, 1)
	vote(t, s, api.Commit, two, 1, 2)
	other := s.Clone()
	if other == s {
		t.Fatal("Clone() returns the same object")
	}
	before := state{pre: true, chosen: one, prepares: []int{0, 1}, commits: []int{1, 2}}
	holds(t, other, before)

	vote(t, s, api.Prepare, one, 3)
	vote(t, s, api.Commit, two, 3)
	holds(t, other, before)
	after := state{
		true, one, []int{0, 1, 3}, []int{1, 2, 3}, of(api.Prepare, 0, 1, 3), of(api.Commit, 1, 2, 3), two,
	}
	holds(t, s, after)

	pre(t, other, two, false)
	vote(t, other, api.Prepare, two, 2)
	vote(t, other, api.Prepare, one, 3)
	vote(t, other, api.Commit, one, 0)
	refused(t, other, api.Commit, 4, two)
	holds(t, s, after)
	holds(t, other, state{
		pre: true, chosen: one, prepares: []int{0, 1, 2, 3}, commits: []int{0, 1, 2}, prepared: of(api.Prepare, 0, 1, 3),
	})

	third := s.Clone()
	s.Reset()
	holds(t, s, state{})
	holds(t, third, after)
	third.Reset()
	pre(t, third, two, true)
	holds(t, s, state{})
	holds(t, third, state{pre: true, chosen: two})
}

// P14.2: clones of new slots and of clones have the size of the first one, and nothing is chosen in them.
func TestCloneOfNewAndOfClone(t *testing.T) {
	for f := 1; f <= api.MaxF; f++ {
		s := fresh(t, f)
		one := s.Clone()
		vote(t, one, api.Commit, nil, 3*f)
		two := one.Clone()
		refused(t, two, api.Commit, 3*f+1, nil)
		vote(t, two, api.Commit, nil, among(1<<(2*f)-1)...)
		holds(t, s, state{})
		holds(t, one, state{commits: []int{3 * f}})
		nodes := append(among(1<<(2*f)-1), 3*f)
		holds(t, two, state{commits: nodes, committed: of(api.Commit, nodes...)})
		pre(t, one, nil, true)
		pre(t, two, kin()[0], true)
		holds(t, s, state{})
	}
}

// P14.2: two slots have nothing in common.
func TestSlotsApart(t *testing.T) {
	s, other := fresh(t, 1), fresh(t, 1)
	pre(t, s, kin()[0], true)
	vote(t, s, api.Prepare, kin()[0], 0, 1, 2)
	holds(t, other, state{})
	vote(t, other, api.Prepare, kin()[0], 0)
	other.Reset()
	holds(t, s, state{pre: true, chosen: kin()[0], prepares: []int{0, 1, 2}, prepared: of(api.Prepare, 0, 1, 2)})
}

// done returns a slot that is prepared and committed with this batch, and what it tells then.
func done(t *testing.T, batch []api.Req) (*slot.Slot, state) {
	t.Helper()
	s := fresh(t, 1)
	pre(t, s, batch, true)
	vote(t, s, api.Prepare, batch, 0, 1, 3)
	vote(t, s, api.Commit, batch, 0, 2, 3)
	return s, state{
		true, kin()[0], []int{0, 1, 3}, []int{0, 2, 3}, of(api.Prepare, 0, 1, 3), of(api.Commit, 0, 2, 3), kin()[0],
	}
}

// P14.1: a batch is neither kept nor changed: what its owner does with it later changes nothing in the slot.
func TestArguments(t *testing.T) {
	whole := append(kin()[0], req(9, 9))
	batch := whole[:2]
	s, want := done(t, batch)
	holds(t, s, want)
	if !slices.Equal(whole, append(kin()[0], req(9, 9))) {
		t.Errorf("the argument became %v", whole)
	}
	clear(whole)
	holds(t, s, want)
	holds(t, s.Clone(), want)
}

// P14.2: the lists that are returned are new ones: who changes them changes nothing in the slot, its clones or other lists.
func TestResults(t *testing.T) {
	s, want := done(t, kin()[0])
	other := s.Clone()
	kept, _ := s.Chosen()
	keptBatch, keptVotes, _ := s.Committed()
	keptPrepared, _ := s.Prepared()
	for range 2 {
		chosen, _ := s.Chosen()
		batch, votes, _ := s.Committed()
		prepared, _ := s.Prepared()
		for _, l := range [][]api.Req{chosen, batch} {
			clear(l[:cap(l)])
			_ = append(l[:1], req(9, 9), req(9, 9))
		}
		for _, l := range [][]api.Vote{prepared, votes} {
			clear(l[:cap(l)])
			_ = append(l[:1], api.Vote{Node: 9}, api.Vote{Node: 9})
		}
		holds(t, s, want)
		holds(t, other, want)
	}
	s.Reset()
	pre(t, s, kin()[1], true)
	vote(t, s, api.Prepare, kin()[1], 1, 2, 3)
	vote(t, s, api.Commit, kin()[1], 1, 2, 3)
	if !slices.Equal(kept, want.chosen) || !slices.Equal(keptBatch, want.batch) {
		t.Errorf("batches became %v, %v; want %v, %v", kept, keptBatch, want.chosen, want.batch)
	}
	if !slices.Equal(keptVotes, want.committed) || !slices.Equal(keptPrepared, want.prepared) {
		t.Errorf("votes became %v, %v; want %v, %v", keptPrepared, keptVotes, want.prepared, want.committed)
	}
}

// A model is a list of what was voted since the last Reset, in the order in which it came.
type model struct {
	f      int
	pre    bool
	chosen []api.Req
	l      []cast
}

type cast struct {
	kind, node, seal int
	batch            []api.Req
}

func (m *model) vote(c cast) bool {
	if c.kind != api.Prepare && c.kind != api.Commit || c.node < 0 || c.node > 3*m.f || slices.Contains(m.nodes(c.kind), c.node) {
		return false
	}
	m.l = append(m.l, c)
	return true
}

// nodes returns those who have a vote of this kind, ascending.
func (m *model) nodes(kind int) []int {
	var l []int
	for _, c := range m.l {
		if c.kind == kind {
			l = append(l, c.node)
		}
	}
	slices.Sort(l)
	return l
}

// enough returns the votes of this kind that decide for the batch, if there are as many.
func (m *model) enough(kind int, batch []api.Req) []api.Vote {
	var l []api.Vote
	for _, c := range m.l {
		if c.kind == kind && slices.Equal(c.batch, batch) {
			l = append(l, api.Vote{Node: c.node, Seal: c.seal})
		}
	}
	if len(l) <= 2*m.f {
		return nil
	}
	slices.SortFunc(l, func(a, b api.Vote) int { return a.Node - b.Node })
	return l[:2*m.f+1]
}

// state returns what a slot should tell.
func (m *model) state() state {
	want := state{pre: m.pre, chosen: m.chosen, prepares: m.nodes(api.Prepare), commits: m.nodes(api.Commit)}
	if m.pre {
		want.prepared = m.enough(api.Prepare, m.chosen)
	}
	for _, c := range m.l {
		if votes := m.enough(api.Commit, c.batch); votes != nil {
			want.batch, want.committed = c.batch, votes
		}
	}
	return want
}

func (m *model) clone() *model {
	return &model{m.f, m.pre, m.chosen, slices.Clone(m.l)}
}

// step does the same to the slot and to the model, whatever r brings, and checks that they answer alike.
func step(t *testing.T, r *rand.Rand, s *slot.Slot, m *model) {
	t.Helper()
	// Most often it is the first batch, so that there are enough votes for it at times.
	batch := kin()[max(0, r.IntN(20)-15)]
	if r.IntN(8) == 0 {
		pre(t, s, batch, !m.pre)
		if !m.pre {
			m.pre, m.chosen = true, batch
		}
	}
	c := cast{api.PrePrepare + r.IntN(4), r.IntN(3*m.f+3) - 1, r.IntN(100), batch}
	got := s.Vote(c.kind, c.node, c.seal, c.batch)
	if want := m.vote(c); got != want {
		t.Errorf("Vote(%d, %d, %d, %v) = %v; want %v", c.kind, c.node, c.seal, c.batch, got, want)
	}
	if r.IntN(60) == 0 {
		s.Reset()
		*m = model{f: m.f}
	}
}

// P14.1, P14.2: any calls, on a slot and on clones of it, answer as the model.
func TestAnyCalls(t *testing.T) {
	r := rand.New(rand.NewPCG(14, 2))
	for round := range 80 {
		f := 1 + round%api.MaxF
		slots, models := []*slot.Slot{fresh(t, f)}, []*model{{f: f}}
		for range 150 {
			i := r.IntN(len(slots))
			step(t, r, slots[i], models[i])
			if r.IntN(50) == 0 {
				slots, models = append(slots, slots[i].Clone()), append(models, models[i].clone())
			}
			for j := range slots {
				holds(t, slots[j], models[j].state())
			}
		}
	}
}
