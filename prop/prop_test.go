package prop_test

import (
	"math"
	"math/rand/v2"
	"slices"
	"testing"

	"psephos/api"
	"psephos/ballot"
	"psephos/prop"
	"psephos/reqs"
)

// cut are numbers that are outside every range, of which some would be inside it if they were cut.
func cut() []int {
	return []int{
		math.MinInt, math.MinInt + 1, -1 << 32, -1<<32 + 1, -256, -255, -64, -63, -2, -1, 64, 65, 255, 256, 257, 1 << 16,
		1<<16 + 1, 1 << 32, 1<<32 + 1, math.MaxInt - 1, math.MaxInt,
	}
}

// clocks are numbers of all sorts: the chapter bounds no clock.
func clocks() []int {
	return []int{
		math.MinInt, -1 << 32, -1, 0, 1, 2, 255, 256, api.MaxClock - 1, api.MaxClock, api.MaxClock + 1, 1 << 32, math.MaxInt,
	}
}

// req is a request of the client at the time, one of many.
func req(client, time int) api.Req {
	return api.Req{Client: client, Time: time, Op: api.Op{Kind: api.Put, Key: 3, Val: 4}, Seal: 5}
}

// kin are a request of client 1 at time 7 and others that differ from it in one field of that client each, in order.
func kin() []api.Req {
	return []api.Req{
		{Client: 1, Time: 7, Op: api.Op{Kind: api.Put, Key: 3, Val: 4}, Seal: 5},
		{Client: 1, Time: 7, Op: api.Op{Kind: api.Put, Key: 3, Val: 4}, Seal: 6},
		{Client: 1, Time: 7, Op: api.Op{Kind: api.Put, Key: 3, Val: 5}, Seal: 5},
		{Client: 1, Time: 7, Op: api.Op{Kind: api.Put, Key: 4, Val: 4}, Seal: 5},
		{Client: 1, Time: 7, Op: api.Op{Kind: api.Add, Key: 3, Val: 4}, Seal: 5},
		{Client: 1, Time: 8, Op: api.Op{Kind: api.Put, Key: 3, Val: 4}, Seal: 5},
	}
}

// fresh returns a table of this size.
func fresh(t *testing.T, f, clients int) *prop.Table {
	t.Helper()
	p, err := prop.New(f, clients)
	if p == nil || err != api.OK {
		t.Fatalf("New(%d, %d) = %v, %d; want a table, %d", f, clients, p, err, api.OK)
	}
	return p
}

// put checks what Put returns where there is no error.
func put(t *testing.T, p *prop.Table, r api.Req, node, clock int, first, ready bool) {
	t.Helper()
	gotFirst, gotReady, err := p.Put(r, node, clock)
	if gotFirst != first || gotReady != ready || err != api.OK {
		t.Errorf("Put(%v, %d, %d) = %v, %v, %d; want %v, %v, %d", r, node, clock, gotFirst, gotReady, err, first, ready, api.OK)
	}
}

// refused checks that Put returns this error and nothing beside it.
func refused(t *testing.T, p *prop.Table, r api.Req, node int, want api.Errno) {
	t.Helper()
	if first, ready, err := p.Put(r, node, 9); first || ready || err != want {
		t.Errorf("Put(%v, %d, 9) = %v, %v, %d; want false, false, %d", r, node, first, ready, err, want)
	}
}

// makeReady makes a request ready since clock, by the nodes 0 to f.
func makeReady(t *testing.T, p *prop.Table, r api.Req, f, clock int) {
	t.Helper()
	for node := range f + 1 {
		put(t, p, r, node, clock-f+node, node == 0, node == f)
	}
}

// A row is what a table should have of a request.
type row struct {
	req   api.Req
	nodes []int // ascending
	ready bool
	since int
}

// has checks that a table has just this of the row's request, by the calls that tell it of one.
func has(t *testing.T, p *prop.Table, want row) {
	t.Helper()
	for node := -1; node <= 3*api.MaxF+4; node++ {
		if got := p.Has(want.req, node); got != slices.Contains(want.nodes, node) {
			t.Errorf("Has(%v, %d) = %v; its nodes are %v", want.req, node, got, want.nodes)
		}
	}
	for _, node := range cut() {
		if p.Has(want.req, node) {
			t.Errorf("Has(%v, %d) = true; want false", want.req, node)
		}
	}
	if got, ok := p.Since(want.req); got != want.since || ok != want.ready {
		t.Errorf("Since(%v) = %d, %v; want %d, %v", want.req, got, ok, want.since, want.ready)
	}
}

// hasNot checks that a table has nothing of the requests.
func hasNot(t *testing.T, p *prop.Table, l ...api.Req) {
	t.Helper()
	for _, r := range l {
		has(t, p, row{req: r})
		if slices.Contains(p.All(), r) {
			t.Errorf("All() has %v", r)
		}
	}
}

// holds checks that a table has just these rows, which are in order.
func holds(t *testing.T, p *prop.Table, want ...row) {
	t.Helper()
	var all, ready []api.Req
	for _, w := range want {
		has(t, p, w)
		all = append(all, w.req)
		if w.ready {
			ready = append(ready, w.req)
		}
	}
	if got := p.All(); !slices.Equal(got, all) {
		t.Errorf("All() = %v; want %v", got, all)
	}
	if got := p.Ready(); !slices.Equal(got, ready) {
		t.Errorf("Ready() = %v; want %v", got, ready)
	}
	if got := p.Len(); got != len(want) {
		t.Errorf("Len() = %d; want %d", got, len(want))
	}
}

// drop checks what Drop returns.
func drop(t *testing.T, p *prop.Table, client, time, want int) {
	t.Helper()
	if got := p.Drop(client, time); got != want {
		t.Errorf("Drop(%d, %d) = %d; want %d", client, time, got, want)
	}
}

// P13.1: a new table is empty; there is one for each size.
func TestNew(t *testing.T) {
	for f := 1; f <= api.MaxF; f++ {
		for clients := 1; clients <= api.MaxClients; clients++ {
			p := fresh(t, f, clients)
			holds(t, p)
			hasNot(t, p, api.Req{}, req(0, 1))
			drop(t, p, 0, math.MaxInt, 0)
		}
	}
}

// P13.1: other sizes are an error, and there is no table.
func TestNewOutside(t *testing.T) {
	refuse := func(f, clients int) {
		if p, err := prop.New(f, clients); p != nil || err != api.ErrArg {
			t.Errorf("New(%d, %d) = %v, %d; want nil, %d", f, clients, p, err, api.ErrArg)
		}
	}
	for _, bad := range append(cut(), 0) {
		for in := 1; in <= min(api.MaxF, api.MaxClients); in++ {
			refuse(bad, in)
			refuse(in, bad)
		}
		refuse(bad, bad)
	}
	for in := 1; in <= min(api.MaxF, api.MaxClients); in++ {
		refuse(api.MaxF+1, in)
		refuse(in, api.MaxClients+1)
	}
}

// P13.1: the chapter's examples.
func TestExamples(t *testing.T) {
	p := fresh(t, 1, 1)
	put(t, p, req(0, 1), 0, 5, true, false)
	put(t, p, req(0, 1), 0, 6, false, false)
	put(t, p, req(0, 1), 2, 7, false, true)
	holds(t, p, row{req(0, 1), []int{0, 2}, true, 7})
}

// P13.1: a request is ready with exactly f+1 nodes, since the clock of that call; nodes that come later change no clock.
func TestPut(t *testing.T) {
	for f := 1; f <= api.MaxF; f++ {
		for from := range ballot.Nodes(f) {
			p := fresh(t, f, api.MaxClients)
			want := row{req: req(3, 9)}
			for i := range ballot.Nodes(f) {
				node := (from + i) % ballot.Nodes(f)
				put(t, p, want.req, node, 100+i, i == 0, i == f)
				want.nodes = append(want.nodes, node)
				if i == f {
					want.ready, want.since = true, 100+i
				}
				holds(t, p, want)
			}
		}
	}
}

// P13.1: a node that propagates a request again changes nothing, neither before it is ready nor after that.
func TestPutAgain(t *testing.T) {
	for f := 1; f <= api.MaxF; f++ {
		p := fresh(t, f, 2)
		want := row{req: req(1, 2)}
		for node := range ballot.Nodes(f) {
			put(t, p, want.req, node, 10*node, node == 0, node == f)
			want.nodes = append(want.nodes, node)
			if node == f {
				want.ready, want.since = true, 10*node
			}
			for again := range node + 1 {
				for _, clock := range clocks() {
					put(t, p, want.req, again, clock, false, false)
				}
			}
			holds(t, p, want)
		}
	}
}

// P13.1: any clock can be the one since which a request is ready, also one that is before an earlier call's.
func TestAnyClock(t *testing.T) {
	for _, clock := range clocks() {
		p := fresh(t, 1, 1)
		put(t, p, req(0, 1), 3, 50, true, false)
		put(t, p, req(0, 1), 1, clock, false, true)
		holds(t, p, row{req(0, 1), []int{1, 3}, true, clock})
		put(t, p, req(0, 1), 0, 60, false, false)
		holds(t, p, row{req(0, 1), []int{0, 1, 3}, true, clock})
	}
}

// P13.1: requests that differ in any field are different ones, each with its own nodes and clock.
func TestRequestsApart(t *testing.T) {
	for i, r := range kin() {
		for j, other := range kin() {
			if i == j {
				continue
			}
			p := fresh(t, 1, 2)
			put(t, p, r, 0, 1, true, false)
			hasNot(t, p, other)
			put(t, p, other, 1, 2, true, false)
			put(t, p, r, 3, 3, false, true)
			one, two := row{r, []int{0, 3}, true, 3}, row{other, []int{1}, false, 0}
			if i > j {
				one, two = two, one
			}
			holds(t, p, one, two)
		}
	}
}

// P13.1: a request need not be valid: its client alone is asked for, whatever else is in it.
func TestAnyRequest(t *testing.T) {
	for _, n := range append(cut(), 0) {
		p := fresh(t, 1, 1)
		r := api.Req{Time: n, Op: api.Op{Kind: n, Key: n, Val: n}, Seal: n}
		put(t, p, r, 3, 1, true, false)
		put(t, p, r, 0, 2, false, true)
		holds(t, p, row{r, []int{0, 3}, true, 2})
		drop(t, p, 0, n, 1)
		holds(t, p)
	}
}

// P13.1: a client or a node that does not exist is an error, and changes nothing.
func TestPutOutside(t *testing.T) {
	for f := 1; f <= api.MaxF; f++ {
		for clients := 1; clients <= api.MaxClients; clients++ {
			p := fresh(t, f, clients)
			put(t, p, req(clients-1, 1), 3*f, 1, true, false)
			want := row{req(clients-1, 1), []int{3 * f}, false, 0}
			others := append(cut(), clients, clients+1, api.MaxClients, api.FirstClient, api.FirstClient+clients-1)
			for _, client := range others {
				refused(t, p, req(client, 1), 0, api.ErrArg)
				hasNot(t, p, req(client, 1))
			}
			for _, node := range append(cut(), 3*f+1, 3*f+2, 3*api.MaxF+1, api.FirstClient) {
				refused(t, p, req(clients-1, 1), node, api.ErrArg)
				refused(t, p, req(0, 2), node, api.ErrArg)
				refused(t, p, req(clients, 2), node, api.ErrArg)
			}
			holds(t, p, want)
		}
	}
}

// full returns a table in which client 1 has all the requests that there is room for, each by node 2, and what it holds.
func full(t *testing.T) (*prop.Table, []row) {
	t.Helper()
	p := fresh(t, 1, 3)
	var want []row
	for i := range api.MaxPending {
		put(t, p, req(1, 10+i), 2, 1, true, false)
		want = append(want, row{req(1, 10+i), []int{2}, false, 0})
	}
	return p, want
}

// P13.1: beyond MaxPending requests of a client there is room for none of it, from any node, and nothing is changed.
func TestFull(t *testing.T) {
	p, want := full(t)
	for node := range 4 {
		for _, r := range []api.Req{req(1, 0), req(1, 9), req(1, 10+api.MaxPending), {Client: 1, Time: 10}} {
			refused(t, p, r, node, api.ErrFull)
			hasNot(t, p, r)
		}
	}
	holds(t, p, want...)
}

// P13.1: requests that are in a full table get more nodes all the same.
func TestFullTakesNodes(t *testing.T) {
	p, want := full(t)
	for i := range want {
		put(t, p, want[i].req, 2, 3, false, false)
		put(t, p, want[i].req, 0, 4+i, false, true)
		want[i].nodes, want[i].ready, want[i].since = []int{0, 2}, true, 4+i
		holds(t, p, want...)
	}
	refused(t, p, req(1, 20), 0, api.ErrFull)
	put(t, p, want[0].req, 1, 9, false, false)
	want[0].nodes = []int{0, 1, 2}
	holds(t, p, want...)
}

// P13.1: each client has room of its own.
func TestFullByClient(t *testing.T) {
	p := fresh(t, 4, api.MaxClients)
	var want []row
	for client := range api.MaxClients {
		for i := range api.MaxPending {
			put(t, p, req(client, i), client, 1, true, false)
			want = append(want, row{req(client, i), []int{client}, false, 0})
		}
		refused(t, p, req(client, api.MaxPending), client, api.ErrFull)
	}
	holds(t, p, want...)
}

// P13.1: what does not exist comes before what is full.
func TestOrderOfErrors(t *testing.T) {
	p, want := full(t)
	for _, node := range append(cut(), 4) {
		refused(t, p, req(1, 30), node, api.ErrArg)
		refused(t, p, want[0].req, node, api.ErrArg)
	}
	holds(t, p, want...)
}

// P13.1: after a Drop there is room for as many again.
func TestRoomAfterDrop(t *testing.T) {
	p, want := full(t)
	drop(t, p, 1, 11, 2)
	put(t, p, req(1, 30), 0, 1, true, false)
	put(t, p, req(1, 5), 0, 1, true, false)
	refused(t, p, req(1, 31), 0, api.ErrFull)
	holds(t, p, slices.Concat(
		[]row{{req(1, 5), []int{0}, false, 0}}, want[2:], []row{{req(1, 30), []int{0}, false, 0}})...)
}

// P13.1: All and Ready return the requests in the order of Compare, in whichever order they came.
func TestOrder(t *testing.T) {
	l := append(kin()[:3:3], req(0, 9), req(0, math.MaxInt), req(1, -1), req(2, math.MinInt), req(3, 1))
	slices.SortFunc(l, reqs.Compare)
	r := rand.New(rand.NewPCG(13, 1))
	for range 200 {
		p := fresh(t, 1, 4)
		want := make([]row, len(l))
		for _, i := range r.Perm(len(l)) {
			put(t, p, l[i], 3, 1, true, false)
			want[i] = row{l[i], []int{3}, false, 0}
		}
		holds(t, p, want...)
		for _, i := range r.Perm(len(l))[:4] {
			put(t, p, l[i], 1, i, false, true)
			want[i] = row{l[i], []int{1, 3}, true, i}
			holds(t, p, want...)
		}
	}
}

// P13.1: Drop removes what is of this client and of a time that is not greater, and nothing else.
func TestDrop(t *testing.T) {
	l := []api.Req{req(0, 4), req(1, 3), {Client: 1, Time: 4}, req(1, 4), req(1, 5), req(2, 4)}
	tests := []struct{ client, time, from, to int }{
		{1, 2, 1, 1}, {1, 3, 1, 2}, {1, 4, 1, 4}, {1, 5, 1, 5}, {1, 6, 1, 5}, {1, math.MaxInt, 1, 5}, {1, math.MinInt, 1, 1},
		{1, -1, 1, 1}, {0, 3, 0, 0}, {0, 4, 0, 1}, {2, 3, 5, 5}, {2, 4, 5, 6}, {3, 9, 6, 6}, {-1, 9, 0, 0}, {4, 9, 0, 0},
		{math.MinInt, 9, 0, 0}, {math.MaxInt, 9, 0, 0}, {1<<32 + 1, 9, 0, 0}, {api.FirstClient + 1, 9, 0, 0}, {257, 9, 0, 0},
	}
	for _, test := range tests {
		p := fresh(t, 1, 4)
		var want []row
		for i, r := range l {
			put(t, p, r, i%4, i, true, false)
			want = append(want, row{r, []int{i % 4}, false, 0})
		}
		// Whether a request is ready does not matter.
		put(t, p, l[2], 3, 7, false, true)
		want[2] = row{l[2], []int{2, 3}, true, 7}
		drop(t, p, test.client, test.time, test.to-test.from)
		want = slices.Delete(want, test.from, test.to)
		holds(t, p, want...)
		hasNot(t, p, l[test.from:test.to]...)
		drop(t, p, test.client, test.time, 0)
		holds(t, p, want...)
	}
}

// P13.1: a request that comes again after it was dropped is a new one: nodes and clock of before are gone.
func TestPutAfterDrop(t *testing.T) {
	for f := 1; f <= api.MaxF; f++ {
		p := fresh(t, f, 2)
		makeReady(t, p, req(1, 5), f, 90)
		drop(t, p, 1, 5, 1)
		hasNot(t, p, req(1, 5))
		put(t, p, req(1, 5), 3*f, 100, true, false)
		holds(t, p, row{req(1, 5), []int{3 * f}, false, 0})
		for node := range f {
			put(t, p, req(1, 5), node, 101+node, false, node == f-1)
		}
		since, ok := p.Since(req(1, 5))
		if since != 100+f || !ok {
			t.Errorf("Since = %d, %v; want %d, true", since, ok, 100+f)
		}
	}
}

// P13.1: the lists that are returned are new ones: who changes them changes nothing in the table, nor in other lists.
func TestMemory(t *testing.T) {
	p := fresh(t, 1, 2)
	makeReady(t, p, req(0, 1), 1, 5)
	makeReady(t, p, req(1, 2), 1, 6)
	put(t, p, req(1, 3), 2, 7, true, false)
	want := []row{
		{req(0, 1), []int{0, 1}, true, 5}, {req(1, 2), []int{0, 1}, true, 6}, {req(1, 3), []int{2}, false, 0},
	}
	all, ready := p.All(), p.Ready()
	for _, l := range [][]api.Req{p.All(), p.Ready()} {
		clear(l[:cap(l)])
		_ = append(l[:1], req(1, 9), req(1, 9))
		holds(t, p, want...)
	}
	drop(t, p, 0, 1, 1)
	put(t, p, req(1, 0), 3, 8, true, false)
	if !slices.Equal(all, []api.Req{req(0, 1), req(1, 2), req(1, 3)}) {
		t.Errorf("a list of all requests became %v", all)
	}
	if !slices.Equal(ready, []api.Req{req(0, 1), req(1, 2)}) {
		t.Errorf("a list of ready requests became %v", ready)
	}
}

// P13.1: a clone has the same requests, nodes and clocks, and the same size; from then on each goes its own way.
func TestClone(t *testing.T) {
	p := fresh(t, 1, 2)
	makeReady(t, p, req(0, 1), 1, 5)
	put(t, p, req(1, 2), 3, 6, true, false)
	put(t, p, req(1, 4), 3, 6, true, false)
	other := p.Clone()
	if other == p {
		t.Fatal("Clone() returns the same object")
	}
	before := []row{
		{req(0, 1), []int{0, 1}, true, 5}, {req(1, 2), []int{3}, false, 0}, {req(1, 4), []int{3}, false, 0},
	}
	holds(t, other, before...)

	put(t, p, req(1, 2), 0, 7, false, true)
	put(t, p, req(1, 3), 0, 7, true, false)
	drop(t, p, 0, 1, 1)
	holds(t, other, before...)
	after := []row{
		{req(1, 2), []int{0, 3}, true, 7}, {req(1, 3), []int{0}, false, 0}, {req(1, 4), []int{3}, false, 0},
	}
	holds(t, p, after...)

	put(t, other, req(1, 2), 2, 9, false, true)
	put(t, other, req(0, 1), 2, 9, false, false)
	put(t, other, req(0, 0), 1, 9, true, false)
	drop(t, other, 1, 4, 2)
	holds(t, p, after...)
	holds(t, other, row{req(0, 0), []int{1}, false, 0}, row{req(0, 1), []int{0, 1, 2}, true, 5})

	refused(t, other, req(2, 1), 0, api.ErrArg)
	refused(t, other, req(1, 1), 4, api.ErrArg)
}

// P13.1: clones of new tables and of clones have the size of the first one.
func TestCloneOfNewAndOfClone(t *testing.T) {
	for f := 1; f <= api.MaxF; f++ {
		for clients := 1; clients <= api.MaxClients; clients++ {
			p := fresh(t, f, clients)
			one := p.Clone()
			holds(t, one)
			put(t, one, req(clients-1, 1), 3*f, 1, true, false)
			two := one.Clone()
			refused(t, two, req(clients, 1), 0, api.ErrArg)
			refused(t, two, req(0, 1), 3*f+1, api.ErrArg)
			for node := range f {
				put(t, two, req(clients-1, 1), node, 2, false, node == f-1)
			}
			holds(t, p)
			holds(t, one, row{req(clients-1, 1), []int{3 * f}, false, 0})
		}
	}
}

// P13.1: two tables have nothing in common.
func TestTablesApart(t *testing.T) {
	p, other := fresh(t, 1, 2), fresh(t, 1, 2)
	makeReady(t, p, req(0, 1), 1, 5)
	holds(t, other)
	put(t, other, req(0, 1), 3, 7, true, false)
	holds(t, p, row{req(0, 1), []int{0, 1}, true, 5})
	holds(t, other, row{req(0, 1), []int{3}, false, 0})
}

// A model is a list of what was put and not dropped, each once, in the order in which it came.
type model struct {
	f, clients int
	l          []call
}

type call struct {
	req         api.Req
	node, clock int
}

// of returns the calls by which r was put.
func (m *model) of(r api.Req) []call {
	var l []call
	for _, c := range m.l {
		if c.req == r {
			l = append(l, c)
		}
	}
	return l
}

// rows returns what a table should hold.
func (m *model) rows() []row {
	var all []api.Req
	for _, c := range m.l {
		all = append(all, c.req)
	}
	var want []row
	for _, r := range reqs.Order(all) {
		w := row{req: r}
		for i, c := range m.of(r) {
			w.nodes = append(w.nodes, c.node)
			if i == m.f {
				w.ready, w.since = true, c.clock
			}
		}
		want = append(want, w)
	}
	return want
}

func (m *model) put(r api.Req, node, clock int) (first, ready bool, err api.Errno) {
	if r.Client < 0 || r.Client >= m.clients || node < 0 || node > 3*m.f {
		return false, false, api.ErrArg
	}
	before, pending := m.of(r), 0
	for _, w := range m.rows() {
		if w.req.Client == r.Client {
			pending++
		}
	}
	if len(before) == 0 && pending >= api.MaxPending {
		return false, false, api.ErrFull
	}
	if slices.ContainsFunc(before, func(c call) bool { return c.node == node }) {
		return false, false, api.OK
	}
	m.l = append(m.l, call{r, node, clock})
	return len(before) == 0, len(before) == m.f, api.OK
}

func (m *model) drop(client, time int) int {
	gone := func(r api.Req) bool { return r.Client == client && r.Time <= time }
	n := 0
	for _, w := range m.rows() {
		if gone(w.req) {
			n++
		}
	}
	m.l = slices.DeleteFunc(m.l, func(c call) bool { return gone(c.req) })
	return n
}

// P13.1: any calls, on a table and on clones of it, answer as the model.
func TestAnyCalls(t *testing.T) {
	r := rand.New(rand.NewPCG(13, 2))
	for round := range 64 {
		f, clients := 1+round%api.MaxF, 1+round/api.MaxF%api.MaxClients
		tables, models := []*prop.Table{fresh(t, f, clients)}, []*model{{f: f, clients: clients}}
		for range 150 {
			i := r.IntN(len(tables))
			a := api.Req{Client: r.IntN(clients+2) - 1, Time: r.IntN(4), Op: api.Op{Kind: 1 + r.IntN(2)}}
			if r.IntN(12) == 0 {
				if got, want := tables[i].Drop(a.Client, a.Time-1), models[i].drop(a.Client, a.Time-1); got != want {
					t.Errorf("Drop(%d, %d) = %d; want %d", a.Client, a.Time-1, got, want)
				}
			}
			node, clock := r.IntN(3*f+3)-1, r.IntN(100)
			first, ready, err := tables[i].Put(a, node, clock)
			if wantFirst, wantReady, want := models[i].put(a, node, clock); first != wantFirst || ready != wantReady || err != want {
				t.Errorf("Put(%v, %d, %d) = %v, %v, %d; want %v, %v, %d", a, node, clock, first, ready, err, wantFirst, wantReady, want)
			}
			if r.IntN(60) == 0 {
				tables = append(tables, tables[i].Clone())
				models = append(models, &model{f, clients, slices.Clone(models[i].l)})
			}
			for j := range tables {
				holds(t, tables[j], models[j].rows()...)
			}
		}
	}
}
