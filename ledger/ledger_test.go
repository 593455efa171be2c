package ledger_test

import (
	"math"
	"math/rand/v2"
	"slices"
	"testing"

	"psephos/api"
	"psephos/ledger"
	"psephos/store"
)

// top is the greatest value.
const top = api.MaxVal - 1

func put(key, val int) api.Op { return api.Op{Kind: api.Put, Key: key, Val: val} }
func get(key int) api.Op      { return api.Op{Kind: api.Get, Key: key} }
func add(key, val int) api.Op { return api.Op{Kind: api.Add, Key: key, Val: val} }
func del(key int) api.Op      { return api.Op{Kind: api.Del, Key: key} }
func sum() api.Op             { return api.Op{Kind: api.Sum} }

// req is a request with a seal of its own.
func req(client, time int, op api.Op) api.Req {
	return api.Req{Client: client, Time: time, Op: op, Seal: 1000*client + time}
}

// entry is a line of a log.
func entry(r api.Req, res int) api.Entry {
	return api.Entry{Req: r, Res: res}
}

// batch is a list of requests.
func batch(l ...api.Req) []api.Req {
	return l
}

// entries is a list of entries.
func entries(l ...api.Entry) []api.Entry {
	return l
}

// noSizes are numbers of clients that no ledger is made for; some would be taken if they were cut.
func noSizes() []int {
	return []int{
		math.MinInt, math.MinInt + 1, -1 << 32, -1<<32 + 1, -255, -api.MaxClients, -2, -1, 0, api.MaxClients + 1,
		api.MaxClients + 2, 255, 256, 257, 1<<16 + 1, 1 << 32, 1<<32 + 1, math.MaxInt - 1, math.MaxInt,
	}
}

// noClients are numbers that no ledger has as clients; some would be if they were cut, or if parties were meant.
func noClients() []int {
	return []int{
		math.MinInt, math.MinInt + 1, -1 << 32, -1<<32 + 1, -256, -255, -api.MaxClients, -2, -1, api.MaxClients,
		api.MaxClients + 1, api.FirstClient, api.FirstClient + 1, 255, 256, 257, 1 << 16, 1 << 32, 1<<32 + 1,
		math.MaxInt - 1, math.MaxInt,
	}
}

// noTimes are times that are later than none.
func noTimes() []int {
	return []int{math.MinInt, math.MinInt + 1, -1<<32 + 1, -1 << 32, -api.MaxTime, -256, -3, -2, -1, 0}
}

// times are those that an entry can have, ascending; the chapter names no greatest one.
func times() []int {
	return []int{
		1, 2, 3, 4, 255, 256, 257, 1 << 16, api.MaxTime - 1, api.MaxTime, api.MaxTime + 1, 1<<31 - 1, 1 << 31, 1 << 32,
		1<<32 + 1, math.MaxInt - 1, math.MaxInt,
	}
}

// fresh returns a ledger for so many clients.
func fresh(t *testing.T, clients int) *ledger.Ledger {
	t.Helper()
	l, err := ledger.New(clients)
	if l == nil || err != api.OK {
		t.Fatalf("New(%d) = %v, %d; want a ledger, %d", clients, l, err, api.OK)
	}
	return l
}

// folded returns the fold of these batches.
func folded(t *testing.T, clients int, batches ...[]api.Req) *ledger.Ledger {
	t.Helper()
	l, err := ledger.Fold(clients, batches...)
	if l == nil || err != api.OK {
		t.Fatalf("Fold(%d, %v) = %v, %d; want a ledger, %d", clients, batches, l, err, api.OK)
	}
	return l
}

// run runs a batch and checks the entries that it makes.
func run(t *testing.T, l *ledger.Ledger, batch []api.Req, want ...api.Entry) {
	t.Helper()
	if got := l.Run(batch); !slices.Equal(got, want) {
		t.Errorf("Run(%+v) = %+v; want %+v", batch, got, want)
	}
}

// last returns the last entry of the client; one with the time 0 if there is none.
func last(log []api.Entry, client int) api.Entry {
	for _, e := range slices.Backward(log) {
		if e.Req.Client == client {
			return e
		}
	}
	return api.Entry{}
}

// replies checks that a ledger's last reply of a client is that of this entry, and that it tells no other.
func replies(t *testing.T, l *ledger.Ledger, client int, want api.Entry) {
	t.Helper()
	at := want.Req.Time
	if got := l.Last(client); got != at {
		t.Errorf("Last(%d) = %d; want %d", client, got, at)
	}
	for _, time := range append(append(noTimes(), times()...), at-1, at, at+1, -at) {
		res, ok := 0, false
		if time == at && at > 0 {
			res, ok = want.Res, true
		}
		if got, is := l.Reply(client, time); got != res || is != ok {
			t.Errorf("Reply(%d, %d) = %d, %v; want %d, %v", client, time, got, is, res, ok)
		}
	}
}

// contents returns what a store has once the operations of these entries were carried out.
func contents(log []api.Entry) *store.Store {
	s := store.New()
	for _, e := range log {
		s.Apply(e.Req.Op)
	}
	return s
}

// holds checks that a ledger has just these entries, and what follows from them, by each of its calls that tells it.
func holds(t *testing.T, l *ledger.Ledger, want ...api.Entry) {
	t.Helper()
	if got := l.All(); !slices.Equal(got, want) {
		t.Errorf("All() = %+v; want %+v", got, want)
	}
	if got := l.Len(); got != len(want) {
		t.Errorf("Len() = %d; want %d", got, len(want))
	}
	for client := range api.MaxClients {
		replies(t, l, client, last(want, client))
	}
	for _, client := range noClients() {
		replies(t, l, client, api.Entry{})
	}
	if got, should := l.Store(), contents(want); got == nil || !got.Same(should) {
		t.Errorf("Store() has not %v", should.All())
	}
}

// has checks that a ledger's store has just these keys and values.
func has(t *testing.T, l *ledger.Ledger, want ...[2]int) {
	t.Helper()
	if got := l.Store().All(); !slices.Equal(got, want) {
		t.Errorf("Store().All() = %v; want %v", got, want)
	}
}

// same checks what Same returns, either way round.
func same(t *testing.T, l, m *ledger.Ledger, want bool) {
	t.Helper()
	if got := l.Same(m); got != want {
		t.Errorf("Same = %v of %+v and %+v; want %v", got, l.All(), m.All(), want)
	}
	if got := m.Same(l); got != want {
		t.Errorf("Same = %v of %+v and %+v; want %v", got, m.All(), l.All(), want)
	}
}

// P12.1: a new ledger has no entries, and an empty store and cache.
func TestNew(t *testing.T) {
	for clients := 1; clients <= api.MaxClients; clients++ {
		l := fresh(t, clients)
		holds(t, l)
		has(t, l)
		same(t, l, fresh(t, clients), true)
	}
}

// P12.1: other numbers of clients are cache's error, and there is no ledger.
func TestNewOutside(t *testing.T) {
	for _, clients := range noSizes() {
		if l, err := ledger.New(clients); l != nil || err != api.ErrArg {
			t.Errorf("New(%d) = %v, %d; want nil, %d", clients, l, err, api.ErrArg)
		}
	}
}

// P12.1: the chapter's example.
func TestExamples(t *testing.T) {
	r := req(0, 1, add(1, 5))
	l := fresh(t, 1)
	run(t, l, batch(r, r), entry(r, 5))
	holds(t, l, entry(r, 5))
	has(t, l, [2]int{1, 5})
}

// P12.1: the requests of a batch are executed one by one, in the order in which they stand.
func TestRun(t *testing.T) {
	a, b, c := req(0, 1, put(1, 5)), req(1, 9, add(1, 2)), req(0, 4, sum())
	d, e, f := req(1, 10, del(1)), req(2, 1, get(1)), req(0, 5, put(2, -3))
	l := fresh(t, 3)
	run(t, l, batch(a, b), entry(a, 0), entry(b, 7))
	holds(t, l, entry(a, 0), entry(b, 7))
	has(t, l, [2]int{1, 7})
	run(t, l, batch(c, d, e), entry(c, 7), entry(d, 7), entry(e, 0))
	holds(t, l, entry(a, 0), entry(b, 7), entry(c, 7), entry(d, 7), entry(e, 0))
	has(t, l)
	run(t, l, batch(f), entry(f, 0))
	holds(t, l, entry(a, 0), entry(b, 7), entry(c, 7), entry(d, 7), entry(e, 0), entry(f, 0))
	has(t, l, [2]int{2, -3})
}

// P12.1: the order of a batch is kept: neither clients nor times bring it into another one.
func TestRunOrder(t *testing.T) {
	a, b, c := req(2, 8, put(1, 5)), req(1, 9, add(1, 2)), req(0, 7, put(1, 1))
	run(t, fresh(t, 3), batch(a, b, c), entry(a, 0), entry(b, 7), entry(c, 7))
	run(t, fresh(t, 3), batch(c, b, a), entry(c, 0), entry(b, 3), entry(a, 3))
	run(t, fresh(t, 3), batch(b, a, c), entry(b, 2), entry(a, 2), entry(c, 5))
}

// P12.1: the null batch makes no entry.
func TestRunNothing(t *testing.T) {
	r := req(0, 1, put(1, 5))
	for _, none := range [][]api.Req{nil, {}} {
		l := fresh(t, 1)
		run(t, l, none)
		holds(t, l)
		same(t, l, fresh(t, 1), true)
		run(t, l, batch(r), entry(r, 0))
		run(t, l, none)
		holds(t, l, entry(r, 0))
	}
}

// P12.1: each client's request is executed at any time from 1 on that is later than its last one.
func TestRunAnyTime(t *testing.T) {
	for clients := 1; clients <= api.MaxClients; clients++ {
		for client := range clients {
			l := fresh(t, clients)
			var want []api.Entry
			for i, time := range times() {
				e := entry(req(client, time, add(3, 10)), 10*(i+1))
				run(t, l, batch(e.Req), e)
				want = append(want, e)
				replies(t, l, client, e)
			}
			holds(t, l, want...)
		}
	}
}

// P12.1: a first request can have any time from 1 on, and none before.
func TestRunFirst(t *testing.T) {
	for _, time := range times() {
		l, r := fresh(t, 2), req(1, time, put(0, 4))
		run(t, l, batch(r), entry(r, 0))
		holds(t, l, entry(r, 0))
	}
	for _, time := range noTimes() {
		l := fresh(t, 2)
		run(t, l, batch(req(1, time, put(0, 4))))
		holds(t, l)
		same(t, l, fresh(t, 2), true)
	}
}

// P12.1: a request of the same time or an earlier one is passed over, whatever its operation and its seal are.
func TestRunTooEarly(t *testing.T) {
	first := entry(req(0, 7, put(1, 5)), 0)
	for i, at := range times() {
		l, e := fresh(t, 2), entry(req(1, at, add(1, 4)), 9)
		run(t, l, batch(first.Req, e.Req), first, e)
		was := l.Clone()
		for _, time := range append(append(noTimes(), times()[:i+1]...), at-1, at) {
			for _, op := range []api.Op{add(1, 4), put(1, 6), put(2, 6), del(1), get(1), sum(), {}} {
				run(t, l, batch(req(1, time, op), api.Req{Client: 1, Time: time, Op: op, Seal: -1}))
			}
		}
		holds(t, l, first, e)
		same(t, l, was, true)
	}
}

// P12.1: a request is late as well if what makes it late stands earlier in the same batch.
func TestRunTooEarlyInItsBatch(t *testing.T) {
	a, b, c := req(0, 5, add(1, 1)), req(0, 4, add(1, 10)), req(0, 5, add(1, 100))
	d, e := req(0, 6, add(1, 1000)), req(1, 1, get(1))
	l := fresh(t, 2)
	run(t, l, batch(a, b, c, d, a, e, d, e), entry(a, 1), entry(d, 1001), entry(e, 1001))
	holds(t, l, entry(a, 1), entry(d, 1001), entry(e, 1001))
	run(t, l, batch(a, b, c, d, e))
	holds(t, l, entry(a, 1), entry(d, 1001), entry(e, 1001))
}

// P12.1: a request of a client that does not exist is passed over, and what stands after it is executed.
func TestRunNoSuchClient(t *testing.T) {
	for clients := 1; clients <= api.MaxClients; clients++ {
		others := noClients()
		for client := clients; client < api.MaxClients; client++ {
			others = append(others, client)
		}
		l := fresh(t, clients)
		var want []api.Entry
		for i, client := range others {
			good := entry(req(clients-1, i+1, get(1)), 0)
			var bad []api.Req
			for _, time := range append(noTimes(), times()...) {
				bad = append(bad, req(client, time, put(1, 5)), req(client, time, add(2, 5)))
			}
			run(t, l, bad)
			run(t, l, append(bad, good.Req), good)
			want = append(want, good)
		}
		holds(t, l, want...)
		has(t, l)
	}
}

// P12.1: an operation that does nothing makes an entry all the same, with the result that the store tells.
func TestRunAnyOperation(t *testing.T) {
	l := fresh(t, 1)
	first := entry(req(0, 1, put(1, top)), 0)
	run(t, l, batch(first.Req), first)
	want := entries(first)
	for i, c := range []struct {
		op  api.Op
		res int
	}{
		{api.Op{}, 0}, {api.Op{Kind: -1, Key: 1, Val: 1}, 0}, {api.Op{Kind: 6, Key: 1, Val: 1}, 0},
		{api.Op{Kind: 1<<32 + 1, Key: 1, Val: 1}, 0}, {put(-1, 2), 0}, {put(api.MaxKey, 2), 0}, {put(1, api.MaxVal), 0},
		{put(1, -api.MaxVal), 0}, {get(api.MaxKey), 0}, {del(-1), 0}, {del(math.MinInt), 0}, {add(1, 1), top},
		{add(1, math.MaxInt), 0}, {api.Op{Kind: api.Sum, Key: -1}, 0}, {api.Op{Kind: api.Sum, Val: api.MaxVal}, 0},
		{api.Op{Kind: api.Sum, Key: 9, Val: -9}, top}, {api.Op{Kind: api.Get, Key: 1, Val: 7}, top},
	} {
		e := entry(req(0, 2+i, c.op), c.res)
		run(t, l, batch(e.Req), e)
		want = append(want, e)
		holds(t, l, want...)
		has(t, l, [2]int{1, top})
	}
}

// P12.1: a result is kept whatever it is: 0, one below 0, or a sum that is no value.
func TestRunAnyResult(t *testing.T) {
	l := fresh(t, 2)
	var reqs []api.Req
	var want []api.Entry
	for i, c := range []struct {
		op  api.Op
		res int
	}{
		{put(0, -top), 0}, {put(0, top), -top}, {put(1, top), 0}, {put(2, top), 0}, {sum(), 3 * top}, {add(3, -9), -9},
		{get(3), -9}, {del(3), -9}, {del(3), 0}, {get(3), 0}, {add(0, -top), 0}, {sum(), 2 * top},
	} {
		r := req(1, 3*i+1, c.op)
		reqs, want = append(reqs, r), append(want, entry(r, c.res))
		run(t, l, reqs, entry(r, c.res))
		holds(t, l, want...)
	}
	run(t, fresh(t, 2), reqs, want...)
}

// P12.1: an entry has the request as it came, with its seal, which nobody asks for.
func TestRunKeepsTheSeal(t *testing.T) {
	l := fresh(t, 1)
	var want []api.Entry
	for i, seal := range []int{math.MinInt, -1, 0, 1, 7, 1 << 40, math.MaxInt} {
		r := api.Req{Client: 0, Time: i + 1, Op: sum(), Seal: seal}
		run(t, l, batch(r), entry(r, 0))
		want = append(want, entry(r, 0))
	}
	holds(t, l, want...)
}

// P12.1: a batch can be longer than those that nodes make, and so can the log.
func TestRunLong(t *testing.T) {
	const many = 3000
	l := fresh(t, 2)
	var reqs []api.Req
	var want []api.Entry
	for i := range many {
		r := req(i%2, i+1, add(i%api.MaxKey, 1))
		reqs, want = append(reqs, r), append(want, entry(r, i/api.MaxKey+1))
	}
	run(t, l, reqs, want...)
	run(t, l, reqs)
	holds(t, l, want...)
	r := req(1, many+1, sum())
	run(t, l, batch(r), entry(r, many))
}

// P12.1: what Run and All return is the caller's own; what is handed in stays as it is, and is not kept.
func TestMemory(t *testing.T) {
	a, b, c, late := req(0, 1, put(1, 5)), req(1, 1, get(1)), req(0, 2, sum()), req(0, 1, put(1, 6))
	want := entries(entry(a, 0), entry(b, 5))
	whole := batch(a, late, b, c, late)
	part := whole[:3]
	held := slices.Clone(whole)

	l := fresh(t, 2)
	ran := l.Run(part)
	if !slices.Equal(ran, want) || !slices.Equal(whole, held) {
		t.Errorf("Run = %+v of %+v, now %+v; want %+v", ran, held, whole, want)
	}
	clear(whole)
	holds(t, l, want...)
	clear(ran[:cap(ran)])
	holds(t, l, want...)

	first, second := l.All(), l.All()
	clear(first[:cap(first)])
	if !slices.Equal(second, want) {
		t.Errorf("All() = %+v after a change of another answer; want %+v", second, want)
	}
	holds(t, l, want...)
	run(t, l, batch(c), entry(c, 5))
	_ = append(second, entry(late, 9))
	holds(t, l, append(want, entry(c, 5))...)
	if !slices.Equal(second, want) {
		t.Errorf("All() = %+v after a later batch; want %+v", second, want)
	}
}

// P12.1: Store returns a clone, which goes its own way.
func TestStore(t *testing.T) {
	a, b := req(0, 1, put(1, 5)), req(0, 2, add(1, 2))
	l := fresh(t, 1)
	run(t, l, batch(a), entry(a, 0))
	one, two := l.Store(), l.Store()
	if one == two {
		t.Fatal("Store() returns the same object twice")
	}
	one.Apply(put(1, 9))
	one.Apply(put(2, 9))
	has(t, l, [2]int{1, 5})
	run(t, l, batch(b), entry(b, 7))
	has(t, l, [2]int{1, 7})
	holds(t, l, entry(a, 0), entry(b, 7))
	if got := two.All(); !slices.Equal(got, [][2]int{{1, 5}}) {
		t.Errorf("All() = %v of a store from before; want [[1 5]]", got)
	}
}

// P12.1: queries change nothing, as often as they are asked.
func TestQueries(t *testing.T) {
	a, b := req(0, 2, put(1, 5)), req(1, 1, add(1, 2))
	l := folded(t, 2, batch(a, b))
	was := l.Clone()
	for range 3 {
		holds(t, l, entry(a, 0), entry(b, 7))
		same(t, l, was, true)
	}
}

// P12.1: ledgers are the same if they have the same entries, store and cache, in which the number of clients counts.
func TestSame(t *testing.T) {
	a, b, c := req(0, 1, put(1, 5)), req(0, 2, put(1, 5)), req(0, 3, put(1, 5))
	seal, later := a, a
	seal.Seal++
	later.Time = 2
	look := req(0, 1, get(1))
	type state struct {
		clients int
		batch   []api.Req
	}
	states := []state{
		{1, nil}, {2, nil}, {4, nil}, {1, batch(a)}, {2, batch(a)}, {3, batch(a)}, {1, batch(seal)}, {1, batch(later)},
		{1, batch(a, b)}, {1, batch(a, c)}, {1, batch(b, c)}, {1, batch(a, b, c)}, {1, batch(look)}, {1, batch(look, b)},
		{1, batch(req(0, 1, put(1, 6)))}, {1, batch(req(0, 1, put(2, 5)))}, {1, batch(req(0, 1, add(1, 5)))},
		{2, batch(req(1, 1, put(1, 5)))}, {2, batch(a, req(1, 1, get(2)))}, {2, batch(req(1, 1, get(2)), a)},
		{1, batch(req(0, 1, sum()))}, {1, batch(req(0, 1, api.Op{}))},
	}
	for i, x := range states {
		for j, y := range states {
			same(t, folded(t, x.clients, x.batch), folded(t, y.clients, y.batch), i == j)
		}
		l := folded(t, x.clients, x.batch)
		same(t, l, l, true)
	}
}

// P12.1: a clone has the same entries, store and cache; from then on each goes its own way.
func TestClone(t *testing.T) {
	a, b, c := req(0, 3, put(1, 5)), req(1, 1, add(1, 2)), req(0, 4, sum())
	d, e := req(0, 4, del(1)), req(1, 2, get(1))
	l := folded(t, 2, batch(a, b))
	m := l.Clone()
	if m == l {
		t.Fatal("Clone() returns the same object")
	}
	same(t, l, m, true)
	holds(t, m, entry(a, 0), entry(b, 7))

	run(t, l, batch(c), entry(c, 7))
	holds(t, m, entry(a, 0), entry(b, 7))
	same(t, l, m, false)
	run(t, m, batch(d, e, req(2, 1, sum())), entry(d, 7), entry(e, 0))
	holds(t, l, entry(a, 0), entry(b, 7), entry(c, 7))
	holds(t, m, entry(a, 0), entry(b, 7), entry(d, 7), entry(e, 0))
	has(t, l, [2]int{1, 7})
	has(t, m)
}

// P12.1: clones of a new ledger, and of clones; they take the same clients.
func TestCloneOfNewAndOfClone(t *testing.T) {
	for clients := 1; clients <= api.MaxClients; clients++ {
		a, b := req(clients-1, 1, add(1, 1)), req(clients-1, 2, add(1, 1))
		l := fresh(t, clients)
		one := l.Clone()
		same(t, l, one, true)
		run(t, one, batch(req(clients, 1, add(1, 1)), a), entry(a, 1))
		two := one.Clone()
		run(t, two, batch(req(clients, 1, add(1, 1)), b), entry(b, 2))
		holds(t, l)
		holds(t, one, entry(a, 1))
		holds(t, two, entry(a, 1), entry(b, 2))
	}
}

// P12.1: clones that go on in the same memory's room don't write over each other's entries.
func TestCloneAtAnyLength(t *testing.T) {
	l := fresh(t, 1)
	var want []api.Entry
	for time := 1; time <= 40; time++ {
		m := l.Clone()
		mine, its := entry(req(0, time, add(1, 1)), time), entry(req(0, time+100, add(1, -time)), -1)
		run(t, l, batch(mine.Req), mine)
		run(t, m, batch(its.Req), its)
		holds(t, m, append(slices.Clone(want), its)...)
		want = append(want, mine)
		holds(t, l, want...)
	}
}

// P12.1: two ledgers have nothing in common.
func TestLedgersApart(t *testing.T) {
	a, b := req(0, 5, add(1, 5)), req(0, 4, add(1, 4))
	l, m := fresh(t, 2), fresh(t, 2)
	run(t, l, batch(a), entry(a, 5))
	holds(t, m)
	run(t, m, batch(b), entry(b, 4))
	holds(t, l, entry(a, 5))
}

// P12.1: Fold runs batches in their order, as many as there are.
func TestFold(t *testing.T) {
	a, b, c := req(0, 1, put(1, 5)), req(1, 9, add(1, 2)), req(0, 4, sum())
	holds(t, folded(t, 2))
	same(t, folded(t, 2), fresh(t, 2), true)
	holds(t, folded(t, 2, nil))
	holds(t, folded(t, 2, nil, batch(), nil))
	holds(t, folded(t, 2, batch(a)), entry(a, 0))
	holds(t, folded(t, 2, batch(a, b), batch(c)), entry(a, 0), entry(b, 7), entry(c, 7))
	holds(t, folded(t, 2, nil, batch(b), nil, batch(a, b), batch(c, c)), entry(b, 2), entry(a, 2), entry(c, 5))
	holds(t, folded(t, 2, batch(c), batch(a), batch(b)), entry(c, 0), entry(b, 2))
	holds(t, folded(t, 1, batch(a, b), batch(c)), entry(a, 0), entry(c, 5))

	l := fresh(t, 2)
	run(t, l, batch(a, b), entry(a, 0), entry(b, 7))
	run(t, l, batch(c), entry(c, 7))
	same(t, l, folded(t, 2, batch(a, b), batch(c)), true)
}

// P12.1: Fold for a number of clients that New refuses has New's error, and no ledger.
func TestFoldOutside(t *testing.T) {
	a := req(0, 1, put(1, 5))
	for _, clients := range noSizes() {
		for _, batches := range [][][]api.Req{nil, {nil}, {batch(a)}, {batch(a), batch(a)}} {
			if l, err := ledger.Fold(clients, batches...); l != nil || err != api.ErrArg {
				t.Errorf("Fold(%d, %v) = %v, %d; want nil, %d", clients, batches, l, err, api.ErrArg)
			}
		}
	}
}

// P12.1: Fold leaves its batches as they are and keeps none; each fold is a ledger of its own.
func TestFoldMemory(t *testing.T) {
	a, b, c := req(0, 2, add(1, 5)), req(0, 1, add(1, 2)), req(0, 3, add(1, 1))
	batches := [][]api.Req{batch(a, b), batch(b, c)}
	l := folded(t, 1, batches...)
	if !slices.Equal(batches[0], batch(a, b)) || !slices.Equal(batches[1], batch(b, c)) {
		t.Errorf("the batches became %v", batches)
	}
	m := folded(t, 1, batches...)
	clear(batches[0])
	clear(batches)
	holds(t, l, entry(a, 5), entry(c, 6))
	d := req(0, 4, del(1))
	run(t, m, batch(d), entry(d, 6))
	holds(t, l, entry(a, 5), entry(c, 6))
}

// prefix checks what Prefix returns, either way round.
func prefix(t *testing.T, a, b []api.Entry, want bool) {
	t.Helper()
	if got := ledger.Prefix(a, b); got != want {
		t.Errorf("Prefix(%+v, %+v) = %v; want %v", a, b, got, want)
	}
	if got := ledger.Prefix(b, a); got != want {
		t.Errorf("Prefix(%+v, %+v) = %v; want %v", b, a, got, want)
	}
}

// P12.2: the shorter list is the beginning of the longer one, wherever it ends; two of one length are equal.
func TestPrefix(t *testing.T) {
	all := entries(entry(req(0, 1, put(1, 5)), 0), entry(req(1, 1, add(1, 2)), 7), entry(req(0, 2, sum()), 7), api.Entry{})
	for n := range len(all) + 1 {
		for m := range len(all) + 1 {
			prefix(t, slices.Clone(all[:n]), all[:m], true)
		}
		prefix(t, nil, all[:n], true)
		prefix(t, entries(), all[:n], true)
		prefix(t, all[n:], all, n == 0 || n == len(all))
	}
	for i, e := range all {
		other := slices.Clone(all)
		other[i].Res++
		for n := range len(all) + 1 {
			prefix(t, all[:n], other, n <= i)
			prefix(t, other[:n], all, n <= i)
		}
		prefix(t, slices.Delete(slices.Clone(all), i, i+1), all, i == len(all)-1)
		prefix(t, slices.Insert(slices.Clone(all), i, e, e), all, i == len(all)-1)
	}
}

// P12.2: entries differ if any of their numbers does.
func TestPrefixEachNumber(t *testing.T) {
	base := entry(api.Req{Client: 1, Time: 2, Op: api.Op{Kind: 3, Key: 4, Val: 5}, Seal: 6}, 7)
	for _, change := range []func(e *api.Entry, n int){
		func(e *api.Entry, n int) { e.Req.Client += n },
		func(e *api.Entry, n int) { e.Req.Time += n },
		func(e *api.Entry, n int) { e.Req.Op.Kind += n },
		func(e *api.Entry, n int) { e.Req.Op.Key += n },
		func(e *api.Entry, n int) { e.Req.Op.Val += n },
		func(e *api.Entry, n int) { e.Req.Seal += n },
		func(e *api.Entry, n int) { e.Res += n },
	} {
		for _, n := range []int{1, -1, 256, 1 << 32, math.MinInt} {
			other := base
			change(&other, n)
			prefix(t, entries(base), entries(other), false)
			prefix(t, entries(base, base), entries(other), false)
			prefix(t, entries(base, other), entries(base), true)
			prefix(t, entries(base, other), entries(base, base), false)
			prefix(t, entries(base, other), entries(base, base, other), false)
		}
	}
}

// P12.2: Prefix looks at its lists and no further, and leaves them as they are.
func TestPrefixMemory(t *testing.T) {
	a := entries(entry(req(0, 1, sum()), 0), entry(req(0, 2, sum()), 0), entry(req(0, 3, sum()), 0))
	b := entries(entry(req(0, 1, sum()), 0), entry(req(0, 2, sum()), 1), entry(req(0, 3, sum()), 1))
	heldA, heldB := slices.Clone(a), slices.Clone(b)
	prefix(t, a[:1], b[:1], true)
	prefix(t, a[:1], b, true)
	prefix(t, a[:2], b, false)
	prefix(t, a[:0], b[:0], true)
	if !slices.Equal(a, heldA) || !slices.Equal(b, heldB) {
		t.Errorf("the lists became %+v and %+v", a, b)
	}
}

// anyReq returns a request that a ledger for four clients mostly executes.
func anyReq(r *rand.Rand, from int) api.Req {
	op := api.Op{Kind: r.IntN(7), Key: r.IntN(5), Val: r.IntN(9) - 4}
	switch r.IntN(20) {
	case 0:
		op.Key = api.MaxKey + r.IntN(2)
	case 1:
		op.Val = api.MaxVal * (r.IntN(3) - 1)
	case 2:
		op.Val = top
	}
	return api.Req{Client: r.IntN(api.MaxClients+2) - 1, Time: from + r.IntN(6) - 2, Op: op, Seal: r.IntN(3)}
}

// anyBatch returns a list of requests, some of them twice.
func anyBatch(r *rand.Rand, from int) []api.Req {
	var l []api.Req
	for range r.IntN(6) {
		l = append(l, anyReq(r, from))
		if r.IntN(4) == 0 {
			l = append(l, l[r.IntN(len(l))])
		}
	}
	return l
}

// A model is a number of clients and the entries of all requests that were executed.
type model struct {
	clients int
	log     []api.Entry
}

// run returns the entries of the batch, each result told by a store that is filled anew.
func (m *model) run(batch []api.Req) []api.Entry {
	before := len(m.log)
	for _, r := range batch {
		if slices.Index([]int{0, 1, 2, 3}[:m.clients], r.Client) < 0 || last(m.log, r.Client).Req.Time >= r.Time {
			continue
		}
		m.log = append(m.log, entry(r, contents(m.log).Apply(r.Op)))
	}
	return m.log[before:]
}

// P12.1, P12.3: any batches, on a ledger and on clones of it, leave what the model says.
func TestAnyCalls(t *testing.T) {
	r := rand.New(rand.NewPCG(12, 1))
	for round := range 40 {
		clients := 1 + round%api.MaxClients
		ledgers, models := []*ledger.Ledger{fresh(t, clients)}, []*model{{clients: clients}}
		for step := range 30 {
			i := r.IntN(len(ledgers))
			l := anyBatch(r, step)
			run(t, ledgers[i], l, models[i].run(l)...)
			if r.IntN(12) == 0 {
				ledgers = append(ledgers, ledgers[i].Clone())
				models = append(models, &model{clients, slices.Clone(models[i].log)})
			}
			for j, x := range ledgers {
				holds(t, x, models[j].log...)
				same(t, x, ledgers[i], slices.Equal(models[j].log, models[i].log))
				short, long := models[i].log, models[j].log
				if len(short) > len(long) {
					short, long = long, short
				}
				prefix(t, x.All(), ledgers[i].All(), slices.Equal(short, long[:len(short)]))
			}
		}
	}
}

// P12.3: store and cache depend on the entries alone: not on how they came in batches, nor on what was passed over.
func TestEntriesAlone(t *testing.T) {
	r := rand.New(rand.NewPCG(12, 3))
	passed := 0
	for round := range 100 {
		clients := 1 + round%api.MaxClients
		l, given := fresh(t, clients), 0
		for step := range 25 {
			b := anyBatch(r, step)
			given += len(b)
			l.Run(b)
		}
		log := l.All()
		var all []api.Req
		var each [][]api.Req
		for _, e := range log {
			all = append(all, e.Req)
			each = append(each, batch(e.Req))
		}
		for _, other := range []*ledger.Ledger{
			folded(t, clients, all), folded(t, clients, each...), folded(t, clients, all, all), folded(t, clients, nil, all[:len(all)/2], all),
		} {
			same(t, other, l, true)
			holds(t, other, log...)
		}
		passed += given - len(log)
	}
	if passed == 0 {
		t.Error("nothing was passed over, which tells little")
	}
}

// P12.3: of two ledgers that have run the same batches, one some more, one log is the beginning of the other.
func TestMoreOfTheSame(t *testing.T) {
	r := rand.New(rand.NewPCG(12, 2))
	var batches [][]api.Req
	for step := range 30 {
		batches = append(batches, anyBatch(r, step))
	}
	whole := folded(t, 3, batches...)
	for n := range len(batches) + 1 {
		part := folded(t, 3, batches[:n]...)
		prefix(t, part.All(), whole.All(), true)
		for _, b := range batches[n:] {
			part.Run(b)
		}
		same(t, part, whole, true)
	}
}
