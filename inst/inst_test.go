package inst_test

import (
	"maps"
	"math"
	"math/rand/v2"
	"slices"
	"testing"

	"psephos/api"
	"psephos/inst"
)

// cut are numbers that are outside every range, of which some would be inside it if they were cut.
func cut() []int {
	return []int{
		math.MinInt, math.MinInt + 1, math.MinInt + 4, -1 << 32, -1<<32 + 4, -256, -252, -64, -16, -15, -5, -4, -3, -2, -1,
		64, 65, 255, 256, 257, 260, 261, 1 << 16, 1<<16 + 4, 1 << 32, 1<<32 + 1, 1<<32 + 4, 1<<32 + 16, 1 << 60, 1<<60 + 1,
		math.MaxInt - 15, math.MaxInt - 1, math.MaxInt,
	}
}

// nowhere are numbers that are no slot.
func nowhere() []int {
	return append(cut(), 0, api.MaxSeq+1, api.MaxSeq+2, 2*api.MaxSeq)
}

// kinds are the two kinds of votes that there are.
func kinds() []int {
	return []int{api.Prepare, api.Commit}
}

// req is one request of many.
func req(n int) api.Req {
	return api.Req{Client: n % 3, Time: n + 1, Op: api.Op{Kind: api.Put, Key: 3, Val: 4}, Seal: n + 5}
}

// batch is one batch of many, with one or two requests that are in no other.
func batch(n int) []api.Req {
	if n%2 == 0 {
		return []api.Req{req(n)}
	}
	return []api.Req{req(n), req(n + 100)}
}

// seal is the seal by which the node votes here.
func seal(kind, seq, node int) int {
	return 10000*kind + 100*seq + 3*node + 1
}

// of is the certificate by votes of this kind of these nodes.
func of(kind, view, number, seq int, batch []api.Req, nodes ...int) api.Cert {
	c := api.Cert{View: view, Inst: number, Seq: seq, Batch: batch}
	for _, node := range nodes {
		c.Votes = append(c.Votes, api.Vote{Node: node, Seal: seal(kind, seq, node)})
	}
	return c
}

// same reports whether two certificates are equal, where no list and an empty one are.
func same(a, b api.Cert) bool {
	return a.View == b.View && a.Inst == b.Inst && a.Seq == b.Seq && slices.Equal(a.Batch, b.Batch) && slices.Equal(a.Votes, b.Votes)
}

// upTo returns the numbers from 0 to n - 1.
func upTo(n int) []int {
	var l []int
	for node := range n {
		l = append(l, node)
	}
	return l
}

// fresh returns a new instance.
func fresh(t *testing.T, f, number, ahead int) *inst.Inst {
	t.Helper()
	i, err := inst.New(f, number, ahead)
	if i == nil || err != api.OK {
		t.Fatalf("New(%d, %d, %d) = %v, %d; want an instance, %d", f, number, ahead, i, err, api.OK)
	}
	return i
}

// pre checks what Pre returns.
func pre(t *testing.T, i *inst.Inst, seq int, batch []api.Req, want bool) {
	t.Helper()
	if got := i.Pre(seq, batch); got != want {
		t.Errorf("Pre(%d, %v) = %v; want %v", seq, batch, got, want)
	}
}

// vote lets each of the nodes vote for the batch, with the seals of before.
func vote(t *testing.T, i *inst.Inst, kind, seq int, batch []api.Req, nodes ...int) {
	t.Helper()
	for _, node := range nodes {
		if !i.Vote(kind, seq, node, seal(kind, seq, node), batch) {
			t.Errorf("Vote(%d, %d, %d, ..) = false; want true", kind, seq, node)
		}
	}
}

// refused checks that no such vote is taken.
func refused(t *testing.T, i *inst.Inst, kind, seq, node int) {
	t.Helper()
	for _, batch := range [][]api.Req{nil, batch(1), batch(2)} {
		if i.Vote(kind, seq, node, 77, batch) {
			t.Errorf("Vote(%d, %d, %d, 77, %v) = true; want false", kind, seq, node, batch)
		}
	}
}

// prepared checks that Prepared returns this certificate, and not again.
func prepared(t *testing.T, i *inst.Inst, want api.Cert) {
	t.Helper()
	if got, ok := i.Prepared(want.Seq); !ok || !same(got, want) {
		t.Errorf("Prepared(%d) = %v, %v; want %v, true", want.Seq, got, ok, want)
	}
	unprepared(t, i, want.Seq)
}

// unprepared checks that Prepared returns nothing for these slots.
func unprepared(t *testing.T, i *inst.Inst, seqs ...int) {
	t.Helper()
	for _, seq := range seqs {
		if got, ok := i.Prepared(seq); ok || !same(got, api.Cert{}) {
			t.Errorf("Prepared(%d) = %v, %v; want nothing, false", seq, got, ok)
		}
	}
}

// commits checks that Commits returns this certificate, and not again.
func commits(t *testing.T, i *inst.Inst, want api.Cert) {
	t.Helper()
	if got, ok := i.Commits(want.Seq); !ok || !same(got, want) {
		t.Errorf("Commits(%d) = %v, %v; want %v, true", want.Seq, got, ok, want)
	}
	uncommitted(t, i, want.Seq)
}

// uncommitted checks that Commits returns nothing for these slots.
func uncommitted(t *testing.T, i *inst.Inst, seqs ...int) {
	t.Helper()
	for _, seq := range seqs {
		if got, ok := i.Commits(seq); ok || !same(got, api.Cert{}) {
			t.Errorf("Commits(%d) = %v, %v; want nothing, false", seq, got, ok)
		}
	}
}

// adopt checks what Adopt returns.
func adopt(t *testing.T, i *inst.Inst, c api.Cert, want bool) {
	t.Helper()
	if got := i.Adopt(c); got != want {
		t.Errorf("Adopt(%v) = %v; want %v", c, got, want)
	}
}

// leave checks what Leave returns.
func leave(t *testing.T, i *inst.Inst, view int, want bool) {
	t.Helper()
	if got := i.Leave(view); got != want {
		t.Errorf("Leave(%d) = %v; want %v", view, got, want)
	}
}

// install checks what Install returns.
func install(t *testing.T, i *inst.Inst, want bool, chosen ...[]api.Req) {
	t.Helper()
	if got := i.Install(chosen); got != want {
		t.Errorf("Install(%v) = %v; want %v", chosen, got, want)
	}
}

// A state is what an instance should tell.
type state struct {
	view             int
	left             bool // the view is not installed
	chosen           map[int][]api.Req
	certs, committed []api.Cert // by ascending seq
}

// at returns the certificate of this slot among l, if there is one.
func at(l []api.Cert, seq int) (api.Cert, bool) {
	for _, c := range l {
		if c.Seq == seq {
			return c, true
		}
	}
	return api.Cert{}, false
}

// with returns l with this certificate in its slot, by ascending seq.
func with(l []api.Cert, c api.Cert) []api.Cert {
	l = slices.DeleteFunc(slices.Clone(l), func(d api.Cert) bool { return d.Seq == c.Seq })
	l = append(l, c)
	slices.SortFunc(l, func(a, b api.Cert) int { return a.Seq - b.Seq })
	return l
}

// done returns how many slots are committed without a gap.
func (s state) done() int {
	seq := 1
	for ; seq <= api.MaxSeq; seq++ {
		if _, ok := at(s.committed, seq); !ok {
			break
		}
	}
	return seq - 1
}

// next returns the seq after all those in which a batch is chosen.
func (s state) next() int {
	next := 1
	for seq := range s.chosen {
		next = max(next, seq+1)
	}
	return next
}

// used reports whether the request is in a batch that is chosen or committed.
func (s state) used(r api.Req) bool {
	for _, l := range s.chosen {
		if slices.Contains(l, r) {
			return true
		}
	}
	return slices.ContainsFunc(s.committed, func(c api.Cert) bool { return slices.Contains(c.Batch, r) })
}

// holds checks that the instance tells just this.
func holds(t *testing.T, i *inst.Inst, want state) {
	t.Helper()
	if view, installed := i.View(), i.Installed(); view != want.view || installed == want.left {
		t.Errorf("View(), Installed() = %d, %v; want %d, %v", view, installed, want.view, !want.left)
	}
	if done, next := i.Done(), i.Next(); done != want.done() || next != want.next() {
		t.Errorf("Done(), Next() = %d, %d; want %d, %d", done, next, want.done(), want.next())
	}
	for seq := -1; seq <= api.MaxSeq+2; seq++ {
		batch, is := want.chosen[seq]
		if got, ok := i.Chosen(seq); ok != is || !slices.Equal(got, batch) {
			t.Errorf("Chosen(%d) = %v, %v; want %v, %v", seq, got, ok, batch, is)
		}
		c, is := at(want.committed, seq)
		if got, ok := i.Committed(seq); ok != is || !same(got, c) {
			t.Errorf("Committed(%d) = %v, %v; want %v, %v", seq, got, ok, c, is)
		}
	}
	if got := i.Certs(); !slices.EqualFunc(got, want.certs, same) {
		t.Errorf("Certs() = %v; want %v", got, want.certs)
	}
	for n := range 20 {
		for _, r := range []api.Req{req(n), req(n + 100)} {
			if got := i.Used(r); got != want.used(r) {
				t.Errorf("Used(%v) = %v; want %v", r, got, want.used(r))
			}
		}
	}
}

// P15.1: a new instance is in view 0, which is installed, and has nothing; there is one for each f, number and ahead.
func TestNew(t *testing.T) {
	for f := 1; f <= api.MaxF; f++ {
		for number := 0; number <= f; number++ {
			for ahead := 1; ahead <= api.MaxSeq; ahead++ {
				holds(t, fresh(t, f, number, ahead), state{})
			}
		}
	}
}

// P15.1: another f, number or ahead is an error, and there is no instance.
func TestNewOutside(t *testing.T) {
	none := func(f, number, ahead int) {
		t.Helper()
		if i, err := inst.New(f, number, ahead); i != nil || err != api.ErrArg {
			t.Errorf("New(%d, %d, %d) = %v, %d; want nil, %d", f, number, ahead, i, err, api.ErrArg)
		}
	}
	for _, n := range cut() {
		for f := 1; f <= api.MaxF; f++ {
			none(n, 0, 1)
			none(f, n, 1)
			none(f, 0, n)
			none(n, n, n)
		}
	}
	for f := 1; f <= api.MaxF; f++ {
		none(f, f+1, 1)
		none(f, api.MaxF+1, 1)
		none(f, 0, 0)
		none(f, 0, api.MaxSeq+1)
		none(f, -1, 1)
	}
	none(0, 0, 1)
	none(api.MaxF+1, 0, 1)
	none(api.MaxF+1, api.MaxF+1, api.MaxSeq+1)
}

// full returns an instance with ahead as great as it can be, in which each slot has something else, and what it tells.
func full(t *testing.T, f, number int) (*inst.Inst, state) {
	t.Helper()
	i := fresh(t, f, number, api.MaxSeq)
	want := state{chosen: map[int][]api.Req{}}
	most := upTo(2*f + 1)
	for seq := 1; seq <= api.MaxSeq; seq++ {
		pre(t, i, seq, batch(seq), true)
		want.chosen[seq] = batch(seq)
		vote(t, i, api.Prepare, seq, batch(seq), most...)
		prepared(t, i, of(api.Prepare, 0, number, seq, batch(seq), most...))
		want.certs = append(want.certs, of(api.Prepare, 0, number, seq, batch(seq), most...))
		if seq%5 != 4 {
			vote(t, i, api.Commit, seq, batch(seq), most...)
			commits(t, i, of(api.Commit, 0, number, seq, batch(seq), most...))
			want.committed = append(want.committed, of(api.Commit, 0, number, seq, batch(seq), most...))
		}
	}
	return i, want
}

// outside checks that every function of the instance returns false for all that is no slot.
func outside(t *testing.T, i *inst.Inst, number int) {
	t.Helper()
	for _, seq := range nowhere() {
		pre(t, i, seq, batch(1), false)
		pre(t, i, seq, nil, false)
		for _, kind := range kinds() {
			refused(t, i, kind, seq, 0)
			refused(t, i, kind, seq, 3)
		}
		unprepared(t, i, seq)
		uncommitted(t, i, seq)
		adopt(t, i, of(api.Commit, 0, number, seq, batch(1), 0, 1, 2), false)
		if got, ok := i.Chosen(seq); ok || len(got) > 0 {
			t.Errorf("Chosen(%d) = %v, %v; want nothing, false", seq, got, ok)
		}
		if got, ok := i.Committed(seq); ok || !same(got, api.Cert{}) {
			t.Errorf("Committed(%d) = %v, %v; want nothing, false", seq, got, ok)
		}
	}
}

// P15.1, P15.2: for what is no slot the functions return false and do nothing, in an empty, a full, and a left instance.
func TestNowhere(t *testing.T) {
	for f := 1; f <= api.MaxF; f++ {
		i := fresh(t, f, f, 3)
		outside(t, i, f)
		holds(t, i, state{})
		i, want := full(t, f, f)
		outside(t, i, f)
		holds(t, i, want)
		leave(t, i, 1, true)
		outside(t, i, f)
		want.view, want.left, want.chosen = 1, true, nil
		holds(t, i, want)
	}
}

// P15.1: in each slot one batch is chosen, the null batch too, and it stays so.
func TestPre(t *testing.T) {
	i := fresh(t, 1, 0, api.MaxSeq)
	want := state{chosen: map[int][]api.Req{}}
	for _, seq := range []int{16, 2, 7, 1, 15} {
		one := batch(seq)
		if seq == 7 {
			one = nil
		}
		pre(t, i, seq, one, true)
		want.chosen[seq] = one
		holds(t, i, want)
		for _, other := range [][]api.Req{one, nil, {}, batch(3), batch(4)} {
			pre(t, i, seq, other, false)
		}
		holds(t, i, want)
	}
}

// P15.1: a batch is chosen in the slots up to Done + ahead, whatever the ahead is and by whatever Done grows.
func TestPreAhead(t *testing.T) {
	for ahead := 1; ahead <= api.MaxSeq; ahead++ {
		i := fresh(t, 1, 1, ahead)
		want := state{chosen: map[int][]api.Req{}}
		for done := 0; done <= api.MaxSeq; done++ {
			last := min(done+ahead, api.MaxSeq)
			for seq := last + 1; seq <= api.MaxSeq+1; seq++ {
				pre(t, i, seq, batch(seq), false)
			}
			holds(t, i, want)
			// All up to ahead at the start, one at each step from then on, the null batch among them.
			for seq := last; seq >= 1; seq-- {
				_, is := want.chosen[seq]
				pre(t, i, seq, nil, !is)
				want.chosen[seq] = nil
			}
			holds(t, i, want)
			if done < api.MaxSeq {
				c := of(api.Commit, 0, 1, done+1, batch(done+1), 1, 2, 3)
				if done%2 == 0 {
					adopt(t, i, c, true)
				} else {
					vote(t, i, api.Commit, c.Seq, c.Batch, 1, 2, 3)
					commits(t, i, c)
				}
				want.committed = append(want.committed, c)
			}
		}
	}
}

// P15.1: what is committed behind a gap lets nothing further ahead be chosen until the gap is closed.
func TestPreBehindGap(t *testing.T) {
	i := fresh(t, 1, 0, 2)
	for _, seq := range []int{2, 3, 5} {
		adopt(t, i, of(api.Commit, 0, 0, seq, batch(seq), 0, 1, 2), true)
	}
	pre(t, i, 3, batch(1), false)
	pre(t, i, 2, batch(1), true) // although another batch is committed there
	adopt(t, i, of(api.Commit, 0, 0, 1, nil, 0, 1, 2), true)
	pre(t, i, 6, batch(1), false)
	pre(t, i, 5, batch(2), true)
	adopt(t, i, of(api.Commit, 0, 0, 4, nil, 0, 1, 2), true)
	pre(t, i, 8, batch(1), false)
	pre(t, i, 7, batch(3), true)
	var l []api.Cert
	for seq := 1; seq <= 5; seq++ {
		c := of(api.Commit, 0, 0, seq, batch(seq), 0, 1, 2)
		if seq%3 == 1 {
			c.Batch = nil
		}
		l = append(l, c)
	}
	holds(t, i, state{chosen: map[int][]api.Req{2: batch(1), 5: batch(2), 7: batch(3)}, committed: l})
}

// P15.1: Done counts the slots from 1 on that have a committed batch, the null batch too, up to the first gap.
func TestDone(t *testing.T) {
	i := fresh(t, 1, 0, 1)
	for _, x := range []struct{ seq, done int }{
		{2, 0}, {4, 0}, {1, 2}, {3, 4}, {16, 4}, {15, 4}, {14, 4}, {13, 4}, {12, 4}, {11, 4}, {10, 4}, {9, 4}, {8, 4}, {7, 4},
		{5, 5}, {6, 16},
	} {
		vote(t, i, api.Commit, x.seq, nil, 0, 2, 3)
		commits(t, i, of(api.Commit, 0, 0, x.seq, nil, 0, 2, 3))
		if got := i.Done(); got != x.done {
			t.Errorf("after Commits(%d) Done() = %d; want %d", x.seq, got, x.done)
		}
	}
}

// P15.1: a prepared slot does not count as done, and neither does one with enough votes whose Commits was not asked.
func TestDoneNeedsCommits(t *testing.T) {
	i := fresh(t, 1, 0, 1)
	pre(t, i, 1, batch(1), true)
	vote(t, i, api.Prepare, 1, batch(1), 0, 1, 2)
	prepared(t, i, of(api.Prepare, 0, 0, 1, batch(1), 0, 1, 2))
	vote(t, i, api.Commit, 1, batch(1), 0, 1, 2)
	want := state{
		chosen: map[int][]api.Req{1: batch(1)}, certs: []api.Cert{of(api.Prepare, 0, 0, 1, batch(1), 0, 1, 2)},
	}
	holds(t, i, want)
	commits(t, i, of(api.Commit, 0, 0, 1, batch(1), 0, 1, 2))
	want.committed = []api.Cert{of(api.Commit, 0, 0, 1, batch(1), 0, 1, 2)}
	holds(t, i, want)
}

// P15.1: each node has one vote of each kind in each slot, however far ahead; other kinds and nodes have none.
func TestVote(t *testing.T) {
	for f := 1; f <= api.MaxF; f++ {
		i := fresh(t, f, 0, 1)
		for seq := 1; seq <= api.MaxSeq; seq++ {
			for _, kind := range kinds() {
				for node := range 3*f + 1 {
					vote(t, i, kind, seq, batch(seq), node)
					refused(t, i, kind, seq, node)
				}
				for _, node := range append(cut(), 3*f+1, api.FirstClient) {
					refused(t, i, kind, seq, node)
				}
			}
			for _, kind := range append(cut(), 0, api.Request, api.Propagate, api.PrePrepare, api.Change, api.ViewChange, api.Reply) {
				refused(t, i, kind, seq, 0)
			}
		}
		holds(t, i, state{})
		most := upTo(2*f + 1)
		var want state
		for seq := 1; seq <= api.MaxSeq; seq++ {
			commits(t, i, of(api.Commit, 0, 0, seq, batch(seq), most...))
			want.committed = append(want.committed, of(api.Commit, 0, 0, seq, batch(seq), most...))
		}
		holds(t, i, want)
	}
}

// P15.1: a seal is any number, and the certificates tell it.
func TestAnySeal(t *testing.T) {
	for _, n := range append(cut(), 0) {
		i := fresh(t, 1, 0, 1)
		pre(t, i, 1, nil, true)
		want := api.Cert{Seq: 1}
		for _, node := range []int{0, 2, 3} {
			want.Votes = append(want.Votes, api.Vote{Node: node, Seal: n})
			for _, kind := range kinds() {
				if !i.Vote(kind, 1, node, n, nil) {
					t.Errorf("Vote(%d, 1, %d, %d, nil) = false; want true", kind, node, n)
				}
			}
		}
		prepared(t, i, want)
		commits(t, i, want)
	}
}

// P15.2: the chapter's example.
func TestExample(t *testing.T) {
	i := fresh(t, 1, 0, 4)
	vote(t, i, api.Commit, 1, batch(1), 0, 1, 2)
	commits(t, i, of(api.Commit, 0, 0, 1, batch(1), 0, 1, 2))
	if got := i.Done(); got != 1 {
		t.Errorf("Done() = %d; want 1", got)
	}
}

// P15.2: the chosen batch is prepared by the Prepares of the lowest 2 f + 1 nodes for it, once; the slot then has the
// certificate, and keeps that one when more votes come.
func TestPrepared(t *testing.T) {
	for f := 1; f <= api.MaxF; f++ {
		for _, seq := range []int{1, 2, api.MaxSeq} {
			i := fresh(t, f, f, api.MaxSeq)
			pre(t, i, seq, batch(seq), true)
			want := state{chosen: map[int][]api.Req{seq: batch(seq)}}
			nodes := upTo(3*f + 1)[f-1 : 3*f] // 2 f + 1 of them
			for _, node := range nodes {
				unprepared(t, i, upTo(api.MaxSeq+1)...)
				holds(t, i, want)
				vote(t, i, api.Prepare, seq, batch(seq), node)
			}
			holds(t, i, want)
			c := of(api.Prepare, 0, f, seq, batch(seq), nodes...)
			prepared(t, i, c)
			want.certs = []api.Cert{c}
			holds(t, i, want)
			vote(t, i, api.Prepare, seq, batch(seq), 3*f)
			if f > 1 {
				vote(t, i, api.Prepare, seq, batch(seq), 0)
			}
			unprepared(t, i, upTo(api.MaxSeq+1)...)
			uncommitted(t, i, upTo(api.MaxSeq+1)...)
			holds(t, i, want)
		}
	}
}

// P15.2: Prepares for another batch than the chosen one do not count, nor do Commits; without a chosen batch none do.
func TestPreparedNeedsChosen(t *testing.T) {
	i := fresh(t, 1, 0, 4)
	vote(t, i, api.Prepare, 1, nil, 0, 1, 2)
	vote(t, i, api.Prepare, 2, batch(2), 0, 1)
	vote(t, i, api.Prepare, 2, batch(3), 2)
	vote(t, i, api.Commit, 2, batch(2), 0, 1, 2, 3)
	unprepared(t, i, 1, 2)
	pre(t, i, 2, batch(2), true)
	unprepared(t, i, 1, 2)
	pre(t, i, 1, nil, true)
	vote(t, i, api.Prepare, 2, batch(2), 3)
	prepared(t, i, of(api.Prepare, 0, 0, 1, nil, 0, 1, 2))
	prepared(t, i, of(api.Prepare, 0, 0, 2, batch(2), 0, 1, 3))

	i = fresh(t, 1, 0, 4)
	pre(t, i, 1, batch(1), true)
	vote(t, i, api.Prepare, 1, batch(2), 0, 1, 2, 3)
	unprepared(t, i, 1)
	holds(t, i, state{chosen: map[int][]api.Req{1: batch(1)}})
}

// P15.2: a slot is prepared also where a batch is committed, this one or another one.
func TestPreparedAfterCommitted(t *testing.T) {
	i := fresh(t, 1, 0, 4)
	one, two := of(api.Commit, 0, 0, 1, batch(1), 0, 1, 2), of(api.Commit, 0, 0, 2, batch(2), 0, 1, 2)
	vote(t, i, api.Commit, 1, batch(1), 0, 1, 2)
	commits(t, i, one)
	adopt(t, i, two, true)
	for _, seq := range []int{1, 2} {
		pre(t, i, seq, batch(1), true)
		vote(t, i, api.Prepare, seq, batch(1), 1, 2, 3)
		prepared(t, i, of(api.Prepare, 0, 0, seq, batch(1), 1, 2, 3))
	}
	holds(t, i, state{
		chosen:    map[int][]api.Req{1: batch(1), 2: batch(1)},
		certs:     []api.Cert{of(api.Prepare, 0, 0, 1, batch(1), 1, 2, 3), of(api.Prepare, 0, 0, 2, batch(1), 1, 2, 3)},
		committed: []api.Cert{one, two},
	})
}

// P15.2: in each view a slot can be prepared once again; then the new certificate replaces the one of before, and until
// then the one of before stays.
func TestPreparedAgain(t *testing.T) {
	i := fresh(t, 1, 1, 4)
	var want state
	for view := 0; view <= api.MaxView; view += 1 + view%2 {
		one := batch(view)
		if view > 0 {
			leave(t, i, view, true)
			want = state{view: view, left: true, certs: want.certs}
			unprepared(t, i, 1, 2, 3)
			holds(t, i, want)
			install(t, i, true, nil, one)
		} else {
			pre(t, i, 1, nil, true)
			pre(t, i, 2, one, true)
		}
		want.left, want.chosen = false, map[int][]api.Req{1: nil, 2: one}
		vote(t, i, api.Prepare, 2, one, 0, 3)
		unprepared(t, i, 1, 2, 3)
		holds(t, i, want)
		vote(t, i, api.Prepare, 2, one, 1)
		want.certs = []api.Cert{of(api.Prepare, view, 1, 2, one, 0, 1, 3)}
		prepared(t, i, want.certs[0])
		vote(t, i, api.Prepare, 2, one, 2)
		unprepared(t, i, 1, 2, 3)
		holds(t, i, want)
	}
}

// P15.2: a batch is committed by the Commits of the lowest 2 f + 1 nodes for it, whether it is chosen, another one is, or
// none; it stays so with that certificate when more votes come.
func TestCommits(t *testing.T) {
	for f := 1; f <= api.MaxF; f++ {
		for way, chosen := range [][]api.Req{nil, batch(1), batch(2)} {
			seq := 1 + way
			i := fresh(t, f, 1, 4)
			var want state
			if way > 0 {
				pre(t, i, seq, chosen, true)
				want.chosen = map[int][]api.Req{seq: chosen}
			}
			nodes := upTo(3*f + 1)[f-1 : 3*f]
			for _, node := range nodes {
				uncommitted(t, i, upTo(api.MaxSeq+1)...)
				holds(t, i, want)
				vote(t, i, api.Commit, seq, batch(1), node)
			}
			holds(t, i, want)
			c := of(api.Commit, 0, 1, seq, batch(1), nodes...)
			commits(t, i, c)
			want.committed = []api.Cert{c}
			holds(t, i, want)
			vote(t, i, api.Commit, seq, batch(1), 3*f)
			if f > 1 {
				vote(t, i, api.Commit, seq, batch(1), 0)
			}
			uncommitted(t, i, upTo(api.MaxSeq+1)...)
			unprepared(t, i, upTo(api.MaxSeq+1)...)
			adopt(t, i, of(api.Commit, 3, 1, seq, batch(3), 0, 1, 2), false)
			holds(t, i, want)
		}
	}
}

// P15.2: Commits for several batches do not count together, and Prepares count for none.
func TestCommitsApart(t *testing.T) {
	i := fresh(t, 1, 0, 4)
	vote(t, i, api.Prepare, 3, batch(1), 0, 1, 2, 3)
	vote(t, i, api.Commit, 3, batch(1), 0, 1)
	vote(t, i, api.Commit, 3, nil, 3)
	vote(t, i, api.Commit, 2, batch(1), 2, 3)
	uncommitted(t, i, 1, 2, 3, 4)
	holds(t, i, state{})
	vote(t, i, api.Commit, 3, batch(1), 2)
	commits(t, i, of(api.Commit, 0, 0, 3, batch(1), 0, 1, 2))
	uncommitted(t, i, 1, 2, 4)
}

// P15.2: what is committed outlasts every view, and no other batch is committed there then, whatever is voted for.
func TestCommitsOnce(t *testing.T) {
	i := fresh(t, 1, 0, 4)
	vote(t, i, api.Commit, 1, batch(1), 0, 1, 2)
	c := of(api.Commit, 0, 0, 1, batch(1), 0, 1, 2)
	commits(t, i, c)
	leave(t, i, 2, true)
	uncommitted(t, i, 1)
	holds(t, i, state{view: 2, left: true, committed: []api.Cert{c}})
	install(t, i, true, batch(2), batch(3))
	for _, seq := range []int{1, 2} {
		vote(t, i, api.Commit, seq, batch(2), 0, 1, 3)
	}
	uncommitted(t, i, 1)
	two := of(api.Commit, 2, 0, 2, batch(2), 0, 1, 3)
	commits(t, i, two)
	adopt(t, i, of(api.Commit, 0, 0, 1, batch(1), 0, 1, 2), false)
	holds(t, i, state{view: 2, chosen: map[int][]api.Req{1: batch(2), 2: batch(3)}, committed: []api.Cert{c, two}})
}

// P15.2: votes of a view that was left commit nothing, not even when that one's Commits was never asked.
func TestCommitsNotAsked(t *testing.T) {
	i := fresh(t, 1, 0, 4)
	pre(t, i, 1, batch(1), true)
	for _, kind := range kinds() {
		vote(t, i, kind, 1, batch(1), 0, 1, 2)
	}
	leave(t, i, 1, true)
	unprepared(t, i, 1)
	uncommitted(t, i, 1)
	install(t, i, true, batch(1))
	unprepared(t, i, 1)
	uncommitted(t, i, 1)
	holds(t, i, state{view: 1, chosen: map[int][]api.Req{1: batch(1)}})
}

// P15.2: a certificate of this instance is adopted as it is, once in each slot: whatever the view in it and here, its
// votes, its batch, and whatever is chosen.
func TestAdopt(t *testing.T) {
	long := make([]api.Req, api.MaxList+1)
	for k, n := range cut() {
		long[k] = api.Req{Client: n, Time: n, Op: api.Op{Kind: n, Key: n, Val: n}, Seal: n}
	}
	i := fresh(t, 1, 1, 4)
	pre(t, i, 2, batch(1), true)
	want := state{chosen: map[int][]api.Req{2: batch(1)}}
	for k, c := range []api.Cert{
		of(api.Commit, 0, 1, 1, batch(2), 0, 1, 2), {Inst: 1}, of(api.Commit, 5, 1, 1, nil), {View: -1, Inst: 1, Batch: long},
		{View: math.MaxInt, Inst: 1, Votes: []api.Vote{{Node: -7, Seal: math.MinInt}, {Node: -7}}},
	} {
		c.Seq = 2 + 3*k
		adopt(t, i, c, true)
		want.committed = append(want.committed, c)
		holds(t, i, want)
		for _, other := range []api.Cert{c, of(api.Commit, 0, 1, c.Seq, batch(3), 0, 1, 2), {Inst: 1, Seq: c.Seq}} {
			adopt(t, i, other, false)
		}
		vote(t, i, api.Commit, c.Seq, batch(4), 0, 1, 2)
		uncommitted(t, i, c.Seq)
		holds(t, i, want)
	}
}

// P15.2: a certificate of another instance is not adopted.
func TestAdoptOfAnother(t *testing.T) {
	for f := 1; f <= api.MaxF; f++ {
		for number := 0; number <= f; number++ {
			i := fresh(t, f, number, 4)
			for _, other := range append(cut(), upTo(api.MaxF+2)...) {
				if other != number {
					adopt(t, i, of(api.Commit, 0, other, 1, batch(1), upTo(2*f+1)...), false)
				}
			}
			holds(t, i, state{})
			adopt(t, i, of(api.Commit, 0, number, 1, batch(1)), true)
		}
	}
}

// P15.2: a certificate is adopted also where the view is not installed, and stays when it is.
func TestAdoptWhenLeft(t *testing.T) {
	i := fresh(t, 1, 0, 4)
	leave(t, i, 3, true)
	c := of(api.Commit, 1, 0, 1, batch(1), 0, 1, 2)
	adopt(t, i, c, true)
	holds(t, i, state{view: 3, left: true, committed: []api.Cert{c}})
	install(t, i, true)
	holds(t, i, state{view: 3, committed: []api.Cert{c}})
	pre(t, i, 6, batch(1), false)
	pre(t, i, 5, batch(1), true)
}

// P15.3: a view is left for any greater one up to MaxView, and for no other.
func TestLeave(t *testing.T) {
	for from := 0; from <= api.MaxView; from++ {
		for to := -1; to <= api.MaxView+2; to++ {
			for _, back := range []bool{false, true} {
				i := fresh(t, 1, 0, 4)
				leave(t, i, from, from > 0)
				if back {
					install(t, i, from > 0, batch(1))
				}
				want := state{view: from, left: from > 0 && !back}
				if from > 0 && back {
					want.chosen = map[int][]api.Req{1: batch(1)}
				}
				leave(t, i, to, to > from && to <= api.MaxView)
				if to > from && to <= api.MaxView {
					want = state{view: to, left: true}
				}
				holds(t, i, want)
			}
		}
		for _, n := range cut() {
			i := fresh(t, 1, 0, 4)
			leave(t, i, from, from > 0)
			leave(t, i, n, false)
			holds(t, i, state{view: from, left: from > 0})
		}
	}
}

// P15.3: after Leave nothing is chosen or voted for any more, and nothing can be; certificates and committed batches stay.
func TestLeaveResets(t *testing.T) {
	for f := 1; f <= api.MaxF; f++ {
		i, want := full(t, f, 0)
		leave(t, i, 0, false)
		leave(t, i, api.MaxView+1, false)
		holds(t, i, want)
		leave(t, i, 4, true)
		want.view, want.left, want.chosen = 4, true, nil
		holds(t, i, want)
		for seq := 1; seq <= api.MaxSeq; seq++ {
			pre(t, i, seq, batch(seq), false)
			pre(t, i, seq, nil, false)
			for node := range 3*f + 1 {
				refused(t, i, api.Prepare, seq, node)
				refused(t, i, api.Commit, seq, node)
			}
			unprepared(t, i, seq)
			uncommitted(t, i, seq)
		}
		holds(t, i, want)
		install(t, i, true)
		want.left = false
		holds(t, i, want)
		for seq := 1; seq <= api.MaxSeq; seq++ {
			for _, kind := range kinds() {
				vote(t, i, kind, seq, nil, upTo(3*f+1)...)
			}
		}
	}
}

// P15.3: the batches become the chosen ones of the first slots, the null batch too, as many as there are, however far
// ahead they are and whatever is committed there; in the other slots nothing is chosen yet.
func TestInstall(t *testing.T) {
	for n := 0; n <= api.MaxSeq; n++ {
		i := fresh(t, 1, 0, 2)
		one := of(api.Commit, 0, 0, 1, batch(9), 0, 1, 2)
		adopt(t, i, one, true)
		leave(t, i, 1, true)
		var l [][]api.Req
		want := state{view: 1, chosen: map[int][]api.Req{}, committed: []api.Cert{one}}
		for seq := 1; seq <= n; seq++ {
			b := batch(seq)
			if seq%4 == 3 {
				b = nil
			}
			l, want.chosen[seq] = append(l, b), b
		}
		install(t, i, true, l...)
		holds(t, i, want)
		for seq := 1; seq <= api.MaxSeq; seq++ {
			pre(t, i, seq, batch(10), seq > n && seq <= 3)
			if seq > n && seq <= 3 {
				want.chosen[seq] = batch(10)
			}
		}
		holds(t, i, want)
	}
}

// P15.3: a view that is installed is not installed again, and more batches than slots are refused; nothing is done then.
func TestInstallNot(t *testing.T) {
	i := fresh(t, 1, 0, 4)
	install(t, i, false)
	install(t, i, false, batch(1))
	holds(t, i, state{})
	leave(t, i, 1, true)
	for _, n := range []int{api.MaxSeq + 1, api.MaxSeq + 2, 300} {
		install(t, i, false, make([][]api.Req, n)...)
		install(t, i, false, slices.Repeat([][]api.Req{batch(1)}, n)...)
	}
	holds(t, i, state{view: 1, left: true})
	pre(t, i, 1, batch(1), false)
	install(t, i, true, batch(2), nil)
	want := state{view: 1, chosen: map[int][]api.Req{1: batch(2), 2: nil}}
	holds(t, i, want)
	install(t, i, false)
	install(t, i, false, batch(3), batch(4), batch(5))
	install(t, i, false, make([][]api.Req, api.MaxSeq+1)...)
	holds(t, i, want)
}

// P15.3: what is installed can be voted for, prepared and committed in its view, also where another batch is committed.
func TestInstalledGoesOn(t *testing.T) {
	i := fresh(t, 1, 1, 1)
	adopt(t, i, of(api.Commit, 0, 1, 2, batch(8), 0, 1, 2), true)
	leave(t, i, 5, true)
	install(t, i, true, batch(1), batch(2), batch(3))
	want := state{view: 5, chosen: map[int][]api.Req{1: batch(1), 2: batch(2), 3: batch(3)}}
	for seq := 1; seq <= 3; seq++ {
		for _, kind := range kinds() {
			vote(t, i, kind, seq, batch(seq), 1, 2, 3)
		}
		prepared(t, i, of(api.Prepare, 5, 1, seq, batch(seq), 1, 2, 3))
		want.certs = append(want.certs, of(api.Prepare, 5, 1, seq, batch(seq), 1, 2, 3))
		if seq == 2 {
			uncommitted(t, i, 2)
			want.committed = append(want.committed, of(api.Commit, 0, 1, 2, batch(8), 0, 1, 2))
			continue
		}
		commits(t, i, of(api.Commit, 5, 1, seq, batch(seq), 1, 2, 3))
		want.committed = append(want.committed, of(api.Commit, 5, 1, seq, batch(seq), 1, 2, 3))
	}
	holds(t, i, want)
}

// P15.3: the certificates come by ascending seq, in whichever order and views the slots were prepared; what is committed
// but was not prepared here has none.
func TestCerts(t *testing.T) {
	i := fresh(t, 1, 0, api.MaxSeq)
	adopt(t, i, of(api.Commit, 0, 0, 3, batch(3), 0, 1, 2), true)
	want := map[int]api.Cert{}
	for view, seqs := range [][]int{{16, 5, 9}, {2, 9, 1}, {}, {4, 16, 15}} {
		if view > 0 {
			leave(t, i, view, true)
			install(t, i, true)
		}
		for _, seq := range seqs {
			pre(t, i, seq, batch(view), true)
			vote(t, i, api.Prepare, seq, batch(view), 0, 2, 3)
			want[seq] = of(api.Prepare, view, 0, seq, batch(view), 0, 2, 3)
			prepared(t, i, want[seq])
		}
	}
	var l []api.Cert
	for _, seq := range []int{1, 2, 4, 5, 9, 15, 16} {
		l = append(l, want[seq])
	}
	if got := i.Certs(); !slices.EqualFunc(got, l, same) {
		t.Errorf("Certs() = %v; want %v", got, l)
	}
}

// P15.3: Next is after the greatest seq in which a batch is chosen in this view, whatever lies between, and 1 if there is
// none; votes and committed batches do not matter.
func TestNext(t *testing.T) {
	next := func(i *inst.Inst, want int) {
		t.Helper()
		if got := i.Next(); got != want {
			t.Errorf("Next() = %d; want %d", got, want)
		}
	}
	i := fresh(t, 1, 0, api.MaxSeq)
	next(i, 1)
	adopt(t, i, of(api.Commit, 0, 0, 1, batch(3), 0, 1, 2), true)
	vote(t, i, api.Prepare, 8, batch(1), 0, 1, 2)
	vote(t, i, api.Commit, 9, batch(1), 0, 1, 2)
	commits(t, i, of(api.Commit, 0, 0, 9, batch(1), 0, 1, 2))
	next(i, 1)
	for _, x := range [][2]int{{2, 3}, {1, 3}, {7, 8}, {6, 8}, {15, 16}, {16, 17}, {3, 17}} {
		pre(t, i, x[0], nil, true)
		next(i, x[1])
	}
	leave(t, i, 1, true)
	next(i, 1)
	install(t, i, true, batch(1), nil)
	next(i, 3)
	leave(t, i, 2, true)
	install(t, i, true)
	next(i, 1)
	leave(t, i, 3, true)
	install(t, i, true, make([][]api.Req, api.MaxSeq)...)
	next(i, api.MaxSeq+1)
}

// used checks for which of the first requests Used is true.
func used(t *testing.T, i *inst.Inst, want ...int) {
	t.Helper()
	for n := range 20 {
		if got := i.Used(req(n)); got != slices.Contains(want, n) {
			t.Errorf("Used(%v) = %v; want %v", req(n), got, !got)
		}
	}
}

// P15.3: a request is used while a batch with it is chosen, or if it is committed; not by votes, by a certificate that a
// slot was prepared, or by a view that was left.
func TestUsed(t *testing.T) {
	i := fresh(t, 1, 0, api.MaxSeq)
	used(t, i)
	pre(t, i, 16, []api.Req{req(1), req(2)}, true)
	pre(t, i, 1, []api.Req{req(3), req(1)}, true)
	used(t, i, 1, 2, 3)
	vote(t, i, api.Prepare, 1, []api.Req{req(3), req(1)}, 0, 1, 2)
	vote(t, i, api.Prepare, 2, []api.Req{req(4)}, 0, 1, 2)
	vote(t, i, api.Commit, 3, []api.Req{req(5)}, 0, 1, 2)
	vote(t, i, api.Commit, 2, []api.Req{req(6)}, 0, 1)
	prepared(t, i, of(api.Prepare, 0, 0, 1, []api.Req{req(3), req(1)}, 0, 1, 2))
	used(t, i, 1, 2, 3)
	commits(t, i, of(api.Commit, 0, 0, 3, []api.Req{req(5)}, 0, 1, 2))
	adopt(t, i, of(api.Commit, 0, 0, 16, []api.Req{req(8), req(7)}, 0, 1, 2), true)
	used(t, i, 1, 2, 3, 5, 7, 8)
	leave(t, i, 1, true)
	used(t, i, 5, 7, 8)
	install(t, i, true, []api.Req{req(1)}, nil, []api.Req{req(9)})
	used(t, i, 1, 5, 7, 8, 9)
}

// P15.3: a request is used only if it is just that one: one that differs in anything is another.
func TestUsedOthers(t *testing.T) {
	i := fresh(t, 1, 0, 4)
	pre(t, i, 1, []api.Req{req(1)}, true)
	adopt(t, i, of(api.Commit, 0, 0, 2, []api.Req{req(2)}, 0, 1, 2), true)
	for n := 1; n <= 2; n++ {
		near := slices.Repeat([]api.Req{req(n)}, 6)
		near[0].Client++
		near[1].Time++
		near[2].Op.Kind++
		near[3].Op.Key++
		near[4].Op.Val++
		near[5].Seal++
		for _, r := range append(near, api.Req{}) {
			if i.Used(r) {
				t.Errorf("Used(%v) = true; want false", r)
			}
		}
	}
	used(t, i, 1, 2)
}

// P15.3: a clone has the same view, slots and certificates; from then on each goes its own way.
func TestClone(t *testing.T) {
	for f := 1; f <= api.MaxF; f++ {
		i, want := full(t, f, f)
		other := i.Clone()
		if other == i {
			t.Fatal("Clone() returns the same object")
		}
		holds(t, other, want)
		most := upTo(2*f + 1)
		four := of(api.Commit, 0, f, 4, batch(4), most...)
		vote(t, i, api.Commit, 4, batch(4), most...)
		uncommitted(t, other, 4)
		commits(t, i, four)
		holds(t, other, want)
		leave(t, other, 3, true)
		left := state{view: 3, left: true, certs: want.certs, committed: want.committed}
		holds(t, other, left)
		want.committed = with(want.committed, four)
		holds(t, i, want)

		third := other.Clone()
		install(t, third, true, batch(17))
		vote(t, third, api.Prepare, 1, batch(17), most...)
		prepared(t, third, of(api.Prepare, 3, f, 1, batch(17), most...))
		adopt(t, third, of(api.Commit, 9, f, 9, nil), true)
		holds(t, i, want)
		holds(t, other, left)
		holds(t, third, state{
			view: 3, chosen: map[int][]api.Req{1: batch(17)},
			certs:     with(want.certs, of(api.Prepare, 3, f, 1, batch(17), most...)),
			committed: with(left.committed, of(api.Commit, 9, f, 9, nil)),
		})
		install(t, other, true)
		left.left = false
		holds(t, other, left)
	}
}

// P15.3: a clone of a new instance has its f, its number and its ahead, and so has a clone of that.
func TestCloneOfNew(t *testing.T) {
	for f := 1; f <= api.MaxF; f++ {
		i := fresh(t, f, f, 3)
		one := i.Clone()
		two := one.Clone()
		for _, c := range []*inst.Inst{two, one} {
			pre(t, c, 4, nil, false)
			pre(t, c, 3, nil, true)
			refused(t, c, api.Commit, 3, 3*f+1)
			adopt(t, c, of(api.Commit, 0, 0, 2, nil), false)
			vote(t, c, api.Commit, 1, batch(1), upTo(3*f + 1)[1:]...)
			nodes := upTo(2*f + 2)[1:]
			commits(t, c, of(api.Commit, 0, f, 1, batch(1), nodes...))
			holds(t, c, state{chosen: map[int][]api.Req{3: nil}, committed: []api.Cert{of(api.Commit, 0, f, 1, batch(1), nodes...)}})
			holds(t, i, state{})
		}
	}
}

// P15.1: two instances have nothing in common.
func TestApart(t *testing.T) {
	i, want := full(t, 1, 1)
	other := fresh(t, 1, 1, 4)
	holds(t, other, state{})
	leave(t, other, 7, true)
	adopt(t, other, of(api.Commit, 0, 1, 4, nil), true)
	holds(t, i, want)
}

// P15.1, P15.2, P15.3: arguments are neither kept nor changed: what their owner does with them later changes nothing.
func TestArguments(t *testing.T) {
	i := fresh(t, 1, 0, 4)
	whole := []api.Req{req(1), req(2), req(3)}
	short := whole[:2]
	two := []api.Req{req(1), req(2)}
	pre(t, i, 1, short, true)
	for _, kind := range kinds() {
		vote(t, i, kind, 1, short, 0, 1, 2)
	}
	c := api.Cert{Seq: 2, Batch: short, Votes: make([]api.Vote, 2, 5)}
	adopt(t, i, c, true)
	if !slices.Equal(whole, []api.Req{req(1), req(2), req(3)}) || !slices.Equal(c.Votes[:5], make([]api.Vote, 5)) {
		t.Errorf("the arguments became %v, %v", whole, c.Votes[:5])
	}
	clear(whole)
	c.Votes[0] = api.Vote{Node: 9, Seal: 9}
	one := of(api.Prepare, 0, 0, 1, two, 0, 1, 2)
	prepared(t, i, one)
	commits(t, i, of(api.Commit, 0, 0, 1, two, 0, 1, 2))
	last := []api.Cert{of(api.Commit, 0, 0, 1, two, 0, 1, 2), {Seq: 2, Batch: two, Votes: make([]api.Vote, 2)}}
	holds(t, i, state{chosen: map[int][]api.Req{1: two}, certs: []api.Cert{one}, committed: last})

	leave(t, i, 1, true)
	copy(whole, []api.Req{req(1), req(2), req(3)})
	list := [][]api.Req{short, nil, short[:1], {req(9)}}
	install(t, i, true, list[:3]...)
	if !slices.Equal(whole, []api.Req{req(1), req(2), req(3)}) || len(list[3]) != 1 || list[3][0] != req(9) {
		t.Errorf("the arguments became %v, %v", whole, list)
	}
	clear(whole)
	clear(list)
	holds(t, i, state{
		view: 1, chosen: map[int][]api.Req{1: two, 2: nil, 3: two[:1]}, certs: []api.Cert{one}, committed: last,
	})
}

// P15.2, P15.3: all lists that are returned are new ones: who changes them changes nothing here, in clones or elsewhere.
func TestResults(t *testing.T) {
	i := fresh(t, 1, 0, 4)
	want := state{
		chosen:    map[int][]api.Req{1: batch(1), 2: batch(3)},
		certs:     []api.Cert{of(api.Prepare, 0, 0, 1, batch(1), 0, 1, 2), of(api.Prepare, 0, 0, 2, batch(3), 0, 1, 2)},
		committed: []api.Cert{of(api.Commit, 0, 0, 1, batch(1), 0, 1, 2), of(api.Commit, 0, 0, 2, batch(3), 0, 1, 2)},
	}
	spoil := func(l ...api.Cert) {
		for _, c := range l {
			clear(c.Batch[:cap(c.Batch)])
			clear(c.Votes[:cap(c.Votes)])
			_ = append(c.Batch[:1], req(9), req(9))
			_ = append(c.Votes[:1], api.Vote{Node: 9}, api.Vote{Node: 9})
		}
	}
	other := i.Clone()
	for seq := 1; seq <= 2; seq++ {
		b := want.chosen[seq]
		pre(t, i, seq, b, true)
		for _, kind := range kinds() {
			vote(t, i, kind, seq, b, 0, 1, 2)
		}
		other = i.Clone()
		c, _ := i.Prepared(seq)
		d, _ := i.Commits(seq)
		spoil(c, d)
		prepared(t, other, want.certs[seq-1])
		commits(t, other, want.committed[seq-1])
	}
	for range 2 {
		holds(t, i, want)
		holds(t, other, want)
		for seq := 1; seq <= 2; seq++ {
			chosen, _ := i.Chosen(seq)
			c, _ := i.Committed(seq)
			clear(chosen[:cap(chosen)])
			spoil(c)
		}
		l := i.Certs()
		spoil(l...)
		clear(l[:cap(l)])
	}
	certs := i.Certs()
	c, _ := i.Committed(1)
	leave(t, i, 1, true)
	install(t, i, true, batch(4))
	vote(t, i, api.Prepare, 1, batch(4), 1, 2, 3)
	prepared(t, i, of(api.Prepare, 1, 0, 1, batch(4), 1, 2, 3))
	if !slices.EqualFunc(certs, want.certs, same) || !same(c, want.committed[0]) {
		t.Errorf("the certificates became %v, %v; want %v, %v", certs, c, want.certs, want.committed[0])
	}
	holds(t, other, want)
}

// A model is what an instance should tell, and a list of what was voted in its view, in the order in which it came.
type model struct {
	f, number, ahead int
	state
	told []int // the slots that are prepared in this view
	l    []cast
}

type cast struct {
	kind, seq, node, seal int
	batch                 []api.Req
}

func (m *model) pre(seq int, batch []api.Req) bool {
	_, is := m.chosen[seq]
	if m.left || is || seq < 1 || seq > api.MaxSeq || seq > m.done()+m.ahead {
		return false
	}
	m.chosen[seq] = batch
	return true
}

func (m *model) vote(c cast) bool {
	if m.left || c.seq < 1 || c.seq > api.MaxSeq || c.node < 0 || c.node > 3*m.f || !slices.Contains(kinds(), c.kind) {
		return false
	}
	for _, d := range m.l {
		if d.kind == c.kind && d.seq == c.seq && d.node == c.node {
			return false
		}
	}
	m.l = append(m.l, c)
	return true
}

// enough returns the certificate by which votes of this kind decide for the batch, if there are as many.
func (m *model) enough(kind, seq int, batch []api.Req) (api.Cert, bool) {
	c := api.Cert{View: m.view, Inst: m.number, Seq: seq, Batch: batch}
	for _, d := range m.l {
		if d.kind == kind && d.seq == seq && slices.Equal(d.batch, batch) {
			c.Votes = append(c.Votes, api.Vote{Node: d.node, Seal: d.seal})
		}
	}
	if len(c.Votes) <= 2*m.f {
		return api.Cert{}, false
	}
	slices.SortFunc(c.Votes, func(a, b api.Vote) int { return a.Node - b.Node })
	c.Votes = c.Votes[:2*m.f+1]
	return c, true
}

func (m *model) prepared(seq int) (api.Cert, bool) {
	batch, is := m.chosen[seq]
	c, ok := m.enough(api.Prepare, seq, batch)
	if !is || !ok || slices.Contains(m.told, seq) {
		return api.Cert{}, false
	}
	m.told, m.certs = append(m.told, seq), with(m.certs, c)
	return c, true
}

func (m *model) commits(seq int) (api.Cert, bool) {
	for _, d := range m.l {
		if c, ok := m.enough(api.Commit, seq, d.batch); ok && m.adopt(c) {
			return c, true
		}
	}
	return api.Cert{}, false
}

func (m *model) adopt(c api.Cert) bool {
	if _, is := at(m.committed, c.Seq); is || c.Seq < 1 || c.Seq > api.MaxSeq || c.Inst != m.number {
		return false
	}
	m.committed = with(m.committed, c)
	return true
}

func (m *model) leave(view int) bool {
	if view <= m.view || view > api.MaxView {
		return false
	}
	m.view, m.left, m.chosen, m.told, m.l = view, true, map[int][]api.Req{}, nil, nil
	return true
}

func (m *model) install(chosen [][]api.Req) bool {
	if !m.left || len(chosen) > api.MaxSeq {
		return false
	}
	m.left = false
	for k, batch := range chosen {
		m.chosen[k+1] = batch
	}
	return true
}

func (m *model) clone() *model {
	c := *m
	c.chosen, c.told, c.l = maps.Clone(m.chosen), slices.Clone(m.told), slices.Clone(m.l)
	return &c
}

// some returns a batch, most often the first one, so that there are enough votes for it at times.
func some(r *rand.Rand) []api.Req {
	if n := max(0, r.IntN(60)-54); n != 5 {
		return batch(n)
	}
	return nil
}

// step does the same to the instance and to the model, whatever r brings, and checks that they answer alike.
func step(t *testing.T, r *rand.Rand, i *inst.Inst, m *model) {
	t.Helper()
	seq := r.IntN(4)
	if r.IntN(6) == 0 {
		seq = r.IntN(api.MaxSeq + 2)
	}
	b := some(r)
	switch r.IntN(12) {
	case 0, 1:
		pre(t, i, seq, b, m.pre(seq, b))
	case 2:
		got, ok := i.Prepared(seq)
		if want, is := m.prepared(seq); ok != is || !same(got, want) {
			t.Errorf("Prepared(%d) = %v, %v; want %v, %v", seq, got, ok, want, is)
		}
	case 3:
		got, ok := i.Commits(seq)
		if want, is := m.commits(seq); ok != is || !same(got, want) {
			t.Errorf("Commits(%d) = %v, %v; want %v, %v", seq, got, ok, want, is)
		}
	case 4:
		if r.IntN(8) == 0 {
			c := of(api.Commit, r.IntN(4), m.number-r.IntN(2), seq, b, upTo(r.IntN(4))...)
			adopt(t, i, c, m.adopt(c))
		}
	case 5:
		if r.IntN(8) == 0 {
			view := m.view + r.IntN(4) - 1
			leave(t, i, view, m.leave(view))
		}
	case 6:
		var l [][]api.Req
		for range r.IntN(5) + r.IntN(2)*r.IntN(14) {
			l = append(l, some(r))
		}
		install(t, i, m.install(l), l...)
	default:
		for range 4 * m.f {
			c := cast{api.PrePrepare + r.IntN(4), seq, r.IntN(3*m.f+3) - 1, r.IntN(100), b}
			got := i.Vote(c.kind, c.seq, c.node, c.seal, c.batch)
			if want := m.vote(c); got != want {
				t.Errorf("Vote(%v) = %v; want %v", c, got, want)
			}
		}
	}
}

// P15.1, P15.2, P15.3: any calls, on an instance and on clones of it, answer as the model.
func TestAnyCalls(t *testing.T) {
	r := rand.New(rand.NewPCG(15, 1))
	for round := range 60 {
		f := 1 + round%api.MaxF
		m := &model{f: f, number: r.IntN(f + 1), ahead: 1 + r.IntN(5), state: state{chosen: map[int][]api.Req{}}}
		insts, models := []*inst.Inst{fresh(t, f, m.number, m.ahead)}, []*model{m}
		for range 400 {
			k := r.IntN(len(insts))
			step(t, r, insts[k], models[k])
			if r.IntN(150) == 0 {
				insts, models = append(insts, insts[k].Clone()), append(models, models[k].clone())
			}
			for j := range insts {
				holds(t, insts[j], models[j].state)
			}
		}
	}
}
