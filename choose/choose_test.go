package choose_test

import (
	"math"
	"math/rand/v2"
	"slices"
	"testing"

	"psephos/api"
	"psephos/ballot"
	"psephos/choose"
	"psephos/reqs"
)

// cut are numbers that are outside every range, of which some would be inside it if they were cut.
func cut() []int {
	return []int{
		math.MinInt, math.MinInt + 1, math.MinInt + 4, -1 << 32, -1<<32 + 4, -256, -252, -64, -16, -15, -5, -4, -3, -2, -1,
		64, 65, 255, 256, 257, 260, 261, 1 << 16, 1<<16 + 4, 1 << 32, 1<<32 + 1, 1<<32 + 4, 1<<32 + 16, 1 << 60, 1<<60 + 1,
		math.MaxInt - 15, math.MaxInt - 1, math.MaxInt,
	}
}

// nowhere are numbers that are no slot.
func nowhere() []int {
	return append(cut(), 0, api.MaxSeq+1, api.MaxSeq+2, 2*api.MaxSeq)
}

// anyInst are the numbers of instances, and other numbers.
func anyInst() []int {
	return append(cut(), 0, 1, 2, 3, api.MaxF, api.MaxF+1)
}

// req is one request of many.
func req(n int) api.Req {
	return api.Req{Client: n % 3, Time: n + 1, Op: api.Op{Kind: api.Put, Key: 3, Val: 4}, Seal: n + 5}
}

// batch is one batch of many, with one or two requests that are in no other; 0 is the null batch.
func batch(n int) []api.Req {
	switch {
	case n == 0:
		return nil
	case n%2 == 0:
		return []api.Req{req(n)}
	}
	return []api.Req{req(n), req(n + 1000)}
}

// cert is a certificate for the batch with this number. Its votes tell it from others for the same batch.
func cert(view, inst, seq, n, mark int) api.Cert {
	return api.Cert{View: view, Inst: inst, Seq: seq, Batch: batch(n), Votes: []api.Vote{{Node: 0, Seal: mark}, {Node: 2, Seal: mark + 1}}}
}

// part is a view change with these certificates.
func part(from int, certs ...api.Cert) api.Part {
	return api.Part{From: from, Votes: []api.Vote{{Node: from, Seal: 8}}, Certs: certs, Seal: from + 40}
}

// same reports whether two certificates are equal, where no list and an empty one are.
func same(a, b api.Cert) bool {
	return a.View == b.View && a.Inst == b.Inst && a.Seq == b.Seq && slices.Equal(a.Batch, b.Batch) && slices.Equal(a.Votes, b.Votes)
}

// alike reports whether two parts are equal, where no list and an empty one are.
func alike(a, b api.Part) bool {
	return a.From == b.From && a.Seal == b.Seal && slices.Equal(a.Votes, b.Votes) && slices.EqualFunc(a.Certs, b.Certs, same)
}

// copied returns the parts with lists of their own.
func copied(parts []api.Part) []api.Part {
	parts = slices.Clone(parts)
	for i, p := range parts {
		parts[i].Votes, parts[i].Certs = slices.Clone(p.Votes), slices.Clone(p.Certs)
		for k, c := range p.Certs {
			parts[i].Certs[k].Batch, parts[i].Certs[k].Votes = slices.Clone(c.Batch), slices.Clone(c.Votes)
		}
	}
	return parts
}

// greatest checks what Greatest returns.
func greatest(t *testing.T, want, inst int, parts ...api.Part) {
	t.Helper()
	if got := choose.Greatest(inst, parts...); got != want {
		t.Errorf("Greatest(%d, %v) = %d; want %d", inst, parts, got, want)
	}
}

// best checks that Best returns this certificate, of its own instance and slot.
func best(t *testing.T, want api.Cert, parts ...api.Part) {
	t.Helper()
	if got, ok := choose.Best(want.Inst, want.Seq, parts...); !ok || !same(got, want) {
		t.Errorf("Best(%d, %d, %v) = %v, %v; want %v, true", want.Inst, want.Seq, parts, got, ok, want)
	}
}

// noBest checks that Best returns nothing.
func noBest(t *testing.T, inst, seq int, parts ...api.Part) {
	t.Helper()
	if got, ok := choose.Best(inst, seq, parts...); ok || !same(got, api.Cert{}) {
		t.Errorf("Best(%d, %d, %v) = %v, %v; want nothing, false", inst, seq, parts, got, ok)
	}
}

// batches checks that Batches returns the batches with these numbers.
func batches(t *testing.T, inst int, parts []api.Part, want ...int) {
	t.Helper()
	got := choose.Batches(inst, parts...)
	if !slices.EqualFunc(got, want, func(l []api.Req, n int) bool { return slices.Equal(l, batch(n)) }) {
		t.Errorf("Batches(%d, %v) = %v; want the batches %v", inst, parts, got, want)
	}
}

// holds checks what Holds returns.
func holds(t *testing.T, want bool, c api.Cert, parts ...api.Part) {
	t.Helper()
	if got := choose.Holds(c, parts...); got != want {
		t.Errorf("Holds(%v, %v) = %v; want %v", c, parts, got, want)
	}
}

// P17.1: the chapter's example, with both certificates in one part, in two, and in either order.
func TestExample(t *testing.T) {
	old, young := cert(0, 0, 2, 3, 70), cert(1, 0, 2, 4, 80)
	for _, parts := range [][]api.Part{
		{part(0, old, young)},
		{part(0, young, old)},
		{part(0, old), part(1, young)},
		{part(0, young), part(1, old)},
		{part(0), part(1, old), part(2), part(3, young)},
	} {
		batches(t, 0, parts, 0, 4)
		greatest(t, 2, 0, parts...)
		best(t, young, parts...)
		noBest(t, 0, 1, parts...)
		holds(t, true, young, parts...)
		holds(t, false, old, parts...)
	}
}

// P17.1: without a part, or without a certificate in any, there is nothing.
func TestNothing(t *testing.T) {
	for _, parts := range [][]api.Part{nil, {}, {part(0)}, {part(0), part(1), part(2)}, {{}, {Certs: []api.Cert{}}}} {
		for _, inst := range anyInst() {
			greatest(t, 0, inst, parts...)
			batches(t, inst, parts)
			for _, seq := range append(nowhere(), 1, 2, api.MaxSeq) {
				noBest(t, inst, seq, parts...)
				holds(t, false, api.Cert{Inst: inst, Seq: seq}, parts...)
			}
		}
	}
}

// P17.1: Greatest is the greatest Seq of a slot that there is, wherever it stands.
func TestGreatest(t *testing.T) {
	for seq := 1; seq <= api.MaxSeq; seq++ {
		for low := 1; low <= seq; low++ {
			greatest(t, seq, 0, part(0, cert(0, 0, low, 3, 1)), part(1, cert(0, 0, seq, 4, 1)))
			greatest(t, seq, 0, part(0, cert(9, 0, seq, 3, 1)), part(1, cert(11, 0, low, 4, 1)))
			greatest(t, seq, 0, part(0, cert(9, 0, low, 0, 1), cert(9, 0, seq, 0, 1), cert(9, 0, low, 0, 1)))
		}
	}
}

// P17.1: a certificate for no slot that there is counts neither in Greatest nor in Batches.
func TestNowhere(t *testing.T) {
	for _, seq := range nowhere() {
		alone := []api.Part{part(0, cert(5, 0, seq, 3, 1))}
		greatest(t, 0, 0, alone...)
		batches(t, 0, alone)
		beside := []api.Part{part(0, cert(5, 0, seq, 3, 1), cert(0, 0, 2, 4, 1)), part(1, cert(7, 0, seq, 5, 1))}
		greatest(t, 2, 0, beside...)
		batches(t, 0, beside, 0, 4)
	}
}

// P17.1: Best takes any number for a slot, and any for an instance.
func TestBestAnywhere(t *testing.T) {
	for _, seq := range append(nowhere(), 1, api.MaxSeq) {
		for _, inst := range anyInst() {
			low, high := cert(2, inst, seq, 3, 10), cert(6, inst, seq, 4, 20)
			best(t, high, part(0, low), part(1, high))
			best(t, low, part(0, low))
			noBest(t, inst, seq^1, part(0, low), part(1, high))
			noBest(t, inst^1, seq, part(0, low), part(1, high))
		}
	}
}

// P17.1: of equal views the first one is taken, part by part.
func TestBestFirst(t *testing.T) {
	a, b, c := cert(4, 1, 3, 5, 10), cert(4, 1, 3, 6, 20), cert(4, 1, 3, 0, 30)
	low := cert(3, 1, 3, 7, 40)
	best(t, a, part(3, a, b), part(2, c))
	best(t, b, part(3, b), part(2, a, c))
	best(t, c, part(0), part(3, low, c), part(0, a), part(1, b))
	best(t, b, part(3, low), part(0, b, low, a), part(0, c))
	// The batches are the same here: the votes tell which one it is.
	twice := cert(4, 1, 3, 5, 50)
	best(t, a, part(1, low, a, twice))
	best(t, twice, part(1, twice), part(0, a))
}

// P17.1: the greatest View counts, whatever number it is, and not how many have a lower one.
func TestBestViews(t *testing.T) {
	views := append(cut(), 0, 1, 2, api.MaxView, api.MaxView+1)
	for _, view := range views {
		c := cert(view, 0, 1, 3, 10)
		best(t, c, part(0, c))
		batches(t, 0, []api.Part{part(0, c)}, 3)
		for _, other := range views {
			if other < view {
				low := cert(other, 0, 1, 4, 20)
				best(t, c, part(0, low, low), part(1, low), part(2, c, low), part(3, low))
			}
		}
	}
}

// P17.1: each slot has the batch of its own certificates, and the ones between the null batch.
func TestBatches(t *testing.T) {
	parts := []api.Part{
		part(2, cert(0, 0, 1, 3, 1), cert(2, 0, 4, 4, 1), cert(1, 0, 6, 5, 1)),
		part(0, cert(1, 0, 1, 6, 1), cert(1, 0, 4, 7, 1), cert(3, 0, 3, 0, 1)),
		part(1, cert(5, 1, 1, 8, 1), cert(2, 0, 3, 9, 1), cert(5, 1, 7, 10, 1)),
	}
	batches(t, 0, parts, 6, 0, 0, 4, 0, 5)
	batches(t, 1, parts, 8, 0, 0, 0, 0, 0, 10)
	batches(t, 2, parts)
	// A null batch that has the greatest view is chosen too.
	holds(t, true, cert(0, 0, 3, 0, 1), parts...)
	holds(t, false, cert(0, 0, 3, 9, 1), parts...)
}

// P17.1: all slots that there are.
func TestWhole(t *testing.T) {
	var parts []api.Part
	var want []int
	for seq := api.MaxSeq; seq >= 1; seq-- {
		parts = append(parts, part(seq, cert(seq%3, 2, seq, seq, 1), cert(0, 1, 3, 40, 1)))
		want = append(want, api.MaxSeq+1-seq)
	}
	batches(t, 2, parts, want...)
	batches(t, 1, parts, 0, 0, 40)
}

// P17.1: who a part is from, its votes and its seal don't matter, nor who voted for a certificate.
func TestPartsAsTheyAre(t *testing.T) {
	for _, n := range cut() {
		c := api.Cert{View: 1, Inst: 0, Seq: 1, Batch: []api.Req{{Client: n, Time: n, Op: api.Op{Kind: n, Key: n, Val: n}, Seal: n}}, Votes: []api.Vote{{Node: n, Seal: n}}}
		p := api.Part{From: n, Certs: []api.Cert{c}, Seal: n}
		best(t, c, p, p)
		holds(t, true, c, p)
	}
	bare := api.Cert{Seq: 1}
	best(t, bare, part(0, bare))
	batches(t, 0, []api.Part{part(0, bare)}, 0)
}

// P17.2: Holds asks for exactly this batch, request by request, and for nothing else.
func TestHolds(t *testing.T) {
	c := cert(3, 1, 2, 5, 10)
	parts := []api.Part{part(0, cert(1, 1, 2, 6, 1)), part(1, c), part(2, cert(0, 1, 3, 7, 1))}
	holds(t, true, c, parts...)
	// Neither its view nor its votes are asked for.
	for _, view := range append(cut(), 0, 1, 2, 4, api.MaxView) {
		holds(t, true, api.Cert{View: view, Inst: 1, Seq: 2, Batch: batch(5)}, parts...)
		holds(t, false, api.Cert{View: view, Inst: 1, Seq: 2, Batch: batch(6)}, parts...)
	}
	l := batch(5)
	for _, other := range [][]api.Req{nil, l[:1], l[1:], {l[1], l[0]}, append(slices.Clone(l), req(9)), {l[0], l[0]}, batch(7)} {
		holds(t, false, api.Cert{View: 3, Inst: 1, Seq: 2, Batch: other}, parts...)
	}
	for k := range l {
		for _, change := range []func(r *api.Req){
			func(r *api.Req) { r.Client++ },
			func(r *api.Req) { r.Time++ },
			func(r *api.Req) { r.Op.Kind++ },
			func(r *api.Req) { r.Op.Key++ },
			func(r *api.Req) { r.Op.Val++ },
			func(r *api.Req) { r.Seal++ },
		} {
			other := slices.Clone(l)
			change(&other[k])
			holds(t, false, api.Cert{View: 3, Inst: 1, Seq: 2, Batch: other}, parts...)
		}
	}
}

// P17.2: a slot without a certificate holds the null batch up to Greatest, and nothing after it.
func TestHoldsNull(t *testing.T) {
	parts := []api.Part{part(0, cert(1, 1, 3, 6, 1)), part(1, cert(1, 0, 9, 6, 1), cert(1, 1, 99, 0, 1), cert(1, 1, 0, 0, 1))}
	for seq := 1; seq <= 2; seq++ {
		holds(t, true, api.Cert{Inst: 1, Seq: seq}, parts...)
		holds(t, true, api.Cert{Inst: 1, Seq: seq, Batch: []api.Req{}}, parts...)
		holds(t, false, cert(1, 1, seq, 6, 1), parts...)
	}
	holds(t, true, cert(1, 1, 3, 6, 1), parts...)
	for _, seq := range append(nowhere(), 4, 9, 99, api.MaxSeq) {
		holds(t, false, api.Cert{Inst: 1, Seq: seq}, parts...)
		holds(t, false, cert(1, 1, seq, 6, 1), parts...)
	}
	for _, inst := range anyInst() {
		if inst > 1 || inst < 0 {
			holds(t, false, cert(1, inst, 3, 6, 1), parts...)
			holds(t, false, api.Cert{Inst: inst, Seq: 1}, parts...)
		}
	}
}

// R4: the parts are neither changed nor kept, and what is returned shares no memory with them or with another list.
func TestMemory(t *testing.T) {
	parts := make([]api.Part, 2, 4)
	parts[0], parts[1] = part(0, cert(1, 0, 1, 3, 1), cert(2, 0, 3, 5, 1)), part(1, cert(4, 0, 2, 7, 1), cert(1, 0, 3, 9, 1))
	// A certificate beyond the length of a list is none.
	parts[0].Certs = append(parts[0].Certs, cert(9, 0, 8, 11, 1))[:2]
	before := copied(parts)
	unchanged := func(what string) {
		t.Helper()
		if !slices.EqualFunc(parts, before, alike) || len(parts[:3][2].Certs) != 0 {
			t.Errorf("%s changed the parts: %v; want %v", what, parts, before)
		}
	}
	greatest(t, 3, 0, parts...)
	unchanged("Greatest")
	holds(t, true, cert(0, 0, 2, 7, 1), parts...)
	unchanged("Holds")
	c, _ := choose.Best(0, 2, parts...)
	c.Batch[0], c.Votes[0] = req(50), api.Vote{Node: 3, Seal: 99}
	c.Batch, c.Votes = append(c.Batch, req(51)), append(c.Votes, api.Vote{Node: 3})
	unchanged("Best, or a change of what it returned,")
	l := choose.Batches(0, parts...)
	for k := range l {
		_ = append(l[k], req(60))
		for i := range l[k] {
			l[k][i] = req(61 + k)
		}
	}
	_ = append(l, batch(3))
	unchanged("Batches, or a change of what it returned,")
	batches(t, 0, parts, 3, 7, 5)
	best(t, cert(4, 0, 2, 7, 1), parts...)

	// The same certificate for two slots: their lists are two.
	shared := cert(1, 0, 1, 3, 1)
	again := shared
	again.Seq = 2
	l = choose.Batches(0, part(0, shared, again))
	l[0][0] = req(70)
	if !slices.Equal(l[1], batch(3)) || !slices.Equal(shared.Batch, batch(3)) {
		t.Errorf("a change of one batch changed another: %v, %v", l, shared)
	}
	// What was returned stays when the arguments change.
	c, _ = choose.Best(0, 1, part(0, shared))
	l = choose.Batches(0, part(0, shared))
	shared.Batch[0], shared.Votes[0] = req(71), api.Vote{}
	if !same(c, cert(1, 0, 1, 3, 1)) || !slices.Equal(l[0], batch(3)) {
		t.Errorf("a change of an argument changed results: %v, %v", c, l)
	}
}

// ranked are the certificates of an instance's slot in the order in which Best takes them: a second way to tell it.
func ranked(inst, seq int, parts []api.Part) []api.Cert {
	var l []api.Cert
	for _, p := range parts {
		l = append(l, p.Certs...)
	}
	l = slices.DeleteFunc(l, func(c api.Cert) bool { return c.Inst != inst || c.Seq != seq })
	slices.SortStableFunc(l, func(a, b api.Cert) int { return b.View - a.View })
	return l
}

// P17.1 and P17.2: any parts.
func TestAnyParts(t *testing.T) {
	r := rand.New(rand.NewPCG(17, 1))
	for range 300 {
		var parts []api.Part
		for from := range r.IntN(6) {
			p := part(from)
			for range r.IntN(8) {
				p.Certs = append(p.Certs, cert(r.IntN(4)-1, r.IntN(3), r.IntN(api.MaxSeq+5)-2, r.IntN(5), r.IntN(1000)))
			}
			parts = append(parts, p)
		}
		for inst := range 3 {
			var want []int
			last := 0
			for seq := -3; seq <= api.MaxSeq+3; seq++ {
				l := ranked(inst, seq, parts)
				if len(l) == 0 {
					noBest(t, inst, seq, parts...)
					continue
				}
				best(t, l[0], parts...)
				if seq >= 1 && seq <= api.MaxSeq {
					last = seq
				}
			}
			greatest(t, last, inst, parts...)
			for seq := 1; seq <= last; seq++ {
				n := 0
				if l := ranked(inst, seq, parts); len(l) > 0 {
					n = numberOf(l[0].Batch)
				}
				want = append(want, n)
			}
			batches(t, inst, parts, want...)
			for seq := -3; seq <= api.MaxSeq+3; seq++ {
				for n := range 5 {
					holds(t, seq >= 1 && seq <= last && want[seq-1] == n, cert(9, inst, seq, n, 1), parts...)
				}
			}
		}
	}
}

// numberOf returns the number of a batch that batch made.
func numberOf(l []api.Req) int {
	if len(l) == 0 {
		return 0
	}
	return l[0].Time - 1
}

// slots is how many slots the game has.
const slots = 4

// A game is one instance that runs through the views, with nodes that keep the rules of chapter 21 and f that need not.
type game struct {
	r         *rand.Rand
	f, inst   int
	faulty    ballot.Set
	best      [][slots]api.Cert // by node, the certificate with the greatest view that it had, if it has votes
	all       []api.Cert        // every certificate that there was
	committed []api.Cert
	batches   int
}

// newGame returns a game with random faulty nodes.
func newGame(r *rand.Rand, f int) *game {
	g := &game{r: r, f: f, inst: r.IntN(f + 1), best: make([][slots]api.Cert, ballot.Nodes(f))}
	for _, node := range r.Perm(ballot.Nodes(f))[:r.IntN(f+1)] {
		g.faulty.Put(node)
	}
	return g
}

// propose returns a batch that is in no certificate yet, or the null batch.
func (g *game) propose() []api.Req {
	if g.r.IntN(6) == 0 {
		return nil
	}
	g.batches++
	return batch(g.batches)
}

// part is the view change of the node: a faulty one leaves certificates out, or has older ones, or those of others.
func (g *game) part(node int) api.Part {
	p := part(node)
	for _, c := range g.best[node] {
		if len(c.Votes) > 0 && !g.faulty.Has(node) {
			p.Certs = append(p.Certs, c)
		}
	}
	if g.faulty.Has(node) {
		for range min(len(g.all), g.r.IntN(2*slots)) {
			p.Certs = append(p.Certs, g.all[g.r.IntN(len(g.all))])
		}
	}
	return p
}

// parts are the view changes of a quorum of nodes, any.
func (g *game) parts() []api.Part {
	var l []api.Part
	for _, node := range g.r.Perm(len(g.best))[:ballot.Quorum(g.f)] {
		l = append(l, g.part(node))
	}
	return l
}

// chosen returns what each correct node chooses in the slots of the view.
// A faulty primary sends others to each of them, but none that the parts don't give.
func (g *game) chosen(view int) [][slots][]api.Req {
	chosen := make([][slots][]api.Req, len(g.best))
	two := g.faulty.Has(ballot.Primary(g.f, view, g.inst))
	for node := range chosen {
		if node > 0 && (!two || g.r.IntN(2) == 0) {
			chosen[node] = chosen[node-1]
			continue
		}
		var begin [][]api.Req
		if view > 0 {
			begin = choose.Batches(g.inst, g.parts()...)
		}
		for k := range slots {
			if k < len(begin) {
				chosen[node][k] = begin[k]
			} else {
				chosen[node][k] = g.propose()
			}
		}
	}
	return chosen
}

// voters returns which nodes vote for the batch: the correct ones that have it, and every faulty one.
func (g *game) voters(has func(node int) bool) []api.Vote {
	var l []api.Vote
	for node := range g.best {
		if g.faulty.Has(node) || has(node) {
			l = append(l, api.Vote{Node: node, Seal: node + 1})
		}
	}
	return l
}

// vote runs one slot of the view, where some messages are lost.
func (g *game) vote(view, k int, chosen [][slots][]api.Req) {
	// Mostly so many that only a few nodes have a certificate, which a quorum may then not tell of.
	loss := []int{0, 4, 7, 7, 7, 7, 7, 7}[g.r.IntN(8)]
	prepared := make([]bool, len(g.best))
	for node := range g.best {
		batch := chosen[node][k]
		votes := g.voters(func(other int) bool { return reqs.Same(chosen[other][k], batch) })
		if len(votes) < ballot.Quorum(g.f) || g.r.IntN(8) < loss || g.faulty.Has(node) {
			continue
		}
		prepared[node] = true
		g.best[node][k] = api.Cert{View: view, Inst: g.inst, Seq: k + 1, Batch: batch, Votes: votes[:ballot.Quorum(g.f)]}
		g.all = append(g.all, g.best[node][k])
	}
	for node := range g.best {
		batch := chosen[node][k]
		votes := g.voters(func(other int) bool { return prepared[other] && reqs.Same(chosen[other][k], batch) })
		if len(votes) >= ballot.Quorum(g.f) && prepared[node] {
			// That no other batch is committed there is what check finds out, view by view.
			g.committed = append(g.committed, api.Cert{View: view, Inst: g.inst, Seq: k + 1, Batch: batch, Votes: votes})
			break
		}
	}
}

// changed reports whether a slot had certificates for two batches.
func (g *game) changed() bool {
	for _, a := range g.all {
		for _, b := range g.all {
			if a.Seq == b.Seq && !reqs.Same(a.Batch, b.Batch) {
				return true
			}
		}
	}
	return false
}

// check checks that what any quorum brings has what was committed.
func (g *game) check(t *testing.T) {
	t.Helper()
	for range 3 {
		parts := g.parts()
		l := choose.Batches(g.inst, parts...)
		for _, c := range g.committed {
			if len(l) < c.Seq || !reqs.Same(l[c.Seq-1], c.Batch) {
				t.Errorf("f %d, faulty %v: Batches(%d, %v) = %v; want %v there", g.f, g.faulty.All(), c.Inst, parts, l, c)
			}
		}
	}
}

// P17.3: what is committed in a view is what every later view begins with.
func TestCommittedStays(t *testing.T) {
	for f := 1; f <= api.MaxF; f++ {
		r := rand.New(rand.NewPCG(17, uint64(f+1)))
		early, changed := 0, 0
		for range 80 {
			g := newGame(r, f)
			for view := range api.MaxView + 1 {
				chosen := g.chosen(view)
				for k := range slots {
					g.vote(view, k, chosen)
				}
				g.check(t)
			}
			// Games in which nothing is at stake would tell nothing.
			if g.changed() {
				changed++
			}
			if len(g.committed) > 0 && g.committed[0].View < api.MaxView/2 {
				early++
			}
			if t.Failed() {
				return
			}
		}
		if early < 10 || changed < 10 {
			t.Errorf("f %d: in %d games something was committed early, in %d a slot had certificates for two batches", f, early, changed)
		}
	}
}
