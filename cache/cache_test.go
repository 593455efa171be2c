package cache_test

import (
	"math"
	"math/rand/v2"
	"slices"
	"testing"

	"psephos/api"
	"psephos/cache"
)

// noSizes are numbers of clients that no cache is made for; some would be taken if they were cut.
func noSizes() []int {
	return []int{
		math.MinInt, math.MinInt + 1, -1 << 32, -1<<32 + 1, -255, -api.MaxClients, -2, -1, 0, api.MaxClients + 1,
		api.MaxClients + 2, 255, 256, 257, 1<<16 + 1, 1 << 32, 1<<32 + 1, math.MaxInt - 1, math.MaxInt,
	}
}

// noClients are numbers that no cache has as clients; some would be if they were cut, or if parties were meant.
func noClients() []int {
	return []int{
		math.MinInt, math.MinInt + 1, -1 << 32, -1<<32 + 1, -256, -255, -api.MaxClients, -2, -1, api.MaxClients,
		api.MaxClients + 1, api.FirstClient, api.FirstClient + 1, 255, 256, 257, 1 << 16, 1 << 32, 1<<32 + 1,
		math.MaxInt - 1, math.MaxInt,
	}
}

// noTimes are numbers that no reply has as its time.
func noTimes() []int {
	return []int{math.MinInt, math.MinInt + 1, -1<<32 + 1, -1 << 32, -api.MaxTime, -256, -3, -2, -1, 0}
}

// times are those that a reply can have, ascending; the chapter names no greatest one.
func times() []int {
	return []int{
		1, 2, 3, 4, 255, 256, 257, 1 << 16, api.MaxTime - 1, api.MaxTime, api.MaxTime + 1, 1<<31 - 1, 1 << 31, 1 << 32,
		1<<32 + 1, math.MaxInt - 1, math.MaxInt,
	}
}

// results are numbers of all sorts: the chapter bounds none.
func results() []int {
	return []int{
		math.MinInt, math.MinInt + 1, -1 << 32, -api.MaxVal, -256, -2, -1, 0, 1, 2, 9, 255, 256, api.MaxVal - 1, api.MaxVal,
		api.MaxKey * api.MaxVal, 1 << 32, math.MaxInt - 1, math.MaxInt,
	}
}

// fresh returns a cache for so many clients.
func fresh(t *testing.T, clients int) *cache.Cache {
	t.Helper()
	c, err := cache.New(clients)
	if c == nil || err != api.OK {
		t.Fatalf("New(%d) = %v, %d; want a cache, %d", clients, c, err, api.OK)
	}
	return c
}

// put checks that the reply is taken.
func put(t *testing.T, c *cache.Cache, client, time, res int) {
	t.Helper()
	if !c.Put(client, time, res) {
		t.Errorf("Put(%d, %d, %d) = false; want true", client, time, res)
	}
}

// notPut checks that the reply is not taken.
func notPut(t *testing.T, c *cache.Cache, client, time, res int) {
	t.Helper()
	if c.Put(client, time, res) {
		t.Errorf("Put(%d, %d, %d) = true; want false", client, time, res)
	}
}

// miss checks that the client has no last reply of this time.
func miss(t *testing.T, c *cache.Cache, client, time int) {
	t.Helper()
	if got, ok := c.Get(client, time); got != 0 || ok {
		t.Errorf("Get(%d, %d) = %d, %v; want 0, false", client, time, got, ok)
	}
}

// last checks what Last returns.
func last(t *testing.T, c *cache.Cache, client, want int) {
	t.Helper()
	if got := c.Last(client); got != want {
		t.Errorf("Last(%d) = %d; want %d", client, got, want)
	}
}

// A reply is what a cache should have for a client; the time 0 is none.
type reply struct{ time, res int }

// has checks that a cache has just this last reply of a client, by each of its calls that tells it.
func has(t *testing.T, c *cache.Cache, client int, want reply) {
	t.Helper()
	last(t, c, client, want.time)
	for _, time := range append(noTimes(), times()...) {
		if time != want.time {
			miss(t, c, client, time)
		}
	}
	for _, time := range []int{want.time - 1, want.time + 1, -want.time} {
		if time != want.time {
			miss(t, c, client, time)
		}
	}
	if want.time == 0 {
		miss(t, c, client, 0)
		return
	}
	if got, ok := c.Get(client, want.time); got != want.res || !ok {
		t.Errorf("Get(%d, %d) = %d, %v; want %d, true", client, want.time, got, ok, want.res)
	}
}

// holds checks that a cache has these last replies, by client, and none of anybody else.
func holds(t *testing.T, c *cache.Cache, want ...reply) {
	t.Helper()
	for client, r := range want {
		has(t, c, client, r)
	}
	for client := len(want); client < api.MaxClients; client++ {
		has(t, c, client, reply{})
	}
	for _, client := range noClients() {
		has(t, c, client, reply{})
	}
}

// same checks what Same returns, either way round.
func same(t *testing.T, c, d *cache.Cache, want bool) {
	t.Helper()
	if got := c.Same(d); got != want {
		t.Errorf("Same = %v of %v and %v; want %v", got, *c, *d, want)
	}
	if got := d.Same(c); got != want {
		t.Errorf("Same = %v of %v and %v; want %v", got, *d, *c, want)
	}
}

// of returns a cache for as many clients as there are replies, with them.
func of(t *testing.T, replies ...reply) *cache.Cache {
	t.Helper()
	c := fresh(t, len(replies))
	for client, r := range replies {
		if r.time != 0 {
			put(t, c, client, r.time, r.res)
		}
	}
	return c
}

// P11.1: a new cache is for its number of clients, and has no replies.
func TestNew(t *testing.T) {
	for clients := 1; clients <= api.MaxClients; clients++ {
		holds(t, fresh(t, clients), make([]reply, clients)...)
	}
}

// P11.1: other numbers of clients are an error, and there is no cache.
func TestNewOutside(t *testing.T) {
	for _, clients := range noSizes() {
		if c, err := cache.New(clients); c != nil || err != api.ErrArg {
			t.Errorf("New(%d) = %v, %d; want nil, %d", clients, c, err, api.ErrArg)
		}
	}
}

// P11.1: the chapter's examples.
func TestExamples(t *testing.T) {
	c := fresh(t, 1)
	put(t, c, 0, 3, 9)
	notPut(t, c, 0, 2, 1)
	if got, ok := c.Get(0, 3); got != 9 || !ok {
		t.Errorf("Get(0, 3) = %d, %v; want 9, true", got, ok)
	}
}

// P11.1: Put takes any result, for any of the clients, at any time that is later; the reply before is gone.
func TestPut(t *testing.T) {
	for clients := 1; clients <= api.MaxClients; clients++ {
		for client := range clients {
			for _, res := range results() {
				c := fresh(t, clients)
				want := make([]reply, clients)
				for i, time := range times() {
					put(t, c, client, time, res-i)
					want[client] = reply{time, res - i}
					has(t, c, client, want[client])
				}
				holds(t, c, want...)
			}
		}
	}
}

// P11.1: a first reply can have any time from 1 on.
func TestPutFirst(t *testing.T) {
	for _, time := range times() {
		c := fresh(t, 2)
		put(t, c, 1, time, 5)
		holds(t, c, reply{}, reply{time, 5})
	}
	for _, time := range noTimes() {
		c := fresh(t, 2)
		notPut(t, c, 1, time, 5)
		holds(t, c, reply{}, reply{})
		same(t, c, fresh(t, 2), true)
	}
}

// P11.1: a reply of the same time or an earlier one is not taken, whatever its result is.
func TestPutTooEarly(t *testing.T) {
	for i, at := range times() {
		c := of(t, reply{7, 1}, reply{at, 4})
		early := append(append(noTimes(), times()[:i+1]...), at-1, at)
		for _, time := range early {
			for _, res := range []int{-4, 0, 4, 5} {
				notPut(t, c, 1, time, res)
			}
		}
		holds(t, c, reply{7, 1}, reply{at, 4})
		if at < math.MaxInt {
			put(t, c, 1, at+1, 4)
			holds(t, c, reply{7, 1}, reply{at + 1, 4})
		}
	}
}

// P11.1: a client that does not exist gets no reply, and has none.
func TestNoSuchClient(t *testing.T) {
	for clients := 1; clients <= api.MaxClients; clients++ {
		c := fresh(t, clients)
		want := make([]reply, clients)
		for client := range clients {
			put(t, c, client, 2, client)
			want[client] = reply{2, client}
		}
		others := noClients()
		for client := clients; client < api.MaxClients; client++ {
			others = append(others, client)
		}
		for _, client := range others {
			for _, time := range append(noTimes(), times()...) {
				notPut(t, c, client, time, 9)
				miss(t, c, client, time)
			}
			last(t, c, client, 0)
		}
		holds(t, c, want...)
	}
}

// P11.1: a reply's result can be 0; it is a reply all the same.
func TestZeroIsAResult(t *testing.T) {
	c := fresh(t, 1)
	put(t, c, 0, 1, 0)
	holds(t, c, reply{1, 0})
	notPut(t, c, 0, 1, 3)
	holds(t, c, reply{1, 0})
	same(t, c, fresh(t, 1), false)
}

// P11.1: Get finds the last reply alone, as often as it is asked, and changes nothing.
func TestGet(t *testing.T) {
	c := fresh(t, 2)
	for _, r := range []reply{{2, 20}, {5, 50}, {6, -60}, {api.MaxTime, 1}} {
		put(t, c, 1, r.time, r.res)
		for range 3 {
			holds(t, c, reply{}, r)
		}
	}
}

// P11.1: each client is by itself, though times and results are alike.
func TestClientsApart(t *testing.T) {
	c := fresh(t, api.MaxClients)
	want := make([]reply, api.MaxClients)
	for round := range 3 {
		for client := range api.MaxClients {
			r := reply{10*round + client%2 + 1, 100*round + client/2}
			put(t, c, client, r.time, r.res)
			want[client] = r
			holds(t, c, want...)
		}
	}
	put(t, c, 3, 1000, 7)
	put(t, c, 0, 500, 7)
	want[0], want[3] = reply{500, 7}, reply{1000, 7}
	notPut(t, c, 3, 501, 8)
	holds(t, c, want...)
}

// P11.1: caches are the same if they have the same number of clients and the same replies.
func TestSame(t *testing.T) {
	caches := [][]reply{
		{{}}, {{}, {}}, {{}, {}, {}}, {{}, {}, {}, {}}, {{1, 0}}, {{1, 0}, {}}, {{}, {1, 0}}, {{1, 0}, {1, 0}}, {{2, 0}},
		{{1, 1}}, {{1, -1}}, {{1, 2}}, {{2, 1}}, {{1, 1}, {2, 2}}, {{2, 2}, {1, 1}}, {{1, 2}, {2, 1}}, {{1, 1}, {2, 2}, {}},
		{{1, 1}, {2, 2}, {3, 3}}, {{1, 1}, {2, 2}, {3, 3}, {}}, {{1, 1}, {2, 2}, {3, 3}, {4, 4}},
		{{1, 1}, {2, 2}, {3, 3}, {4, 5}}, {{1, 1}, {2, 2}, {3, 3}, {5, 4}}, {{math.MaxInt, math.MinInt}},
		{{math.MaxInt, math.MaxInt}}, {{1, 1 << 32}}, {{1<<32 + 1, 0}},
	}
	for i, a := range caches {
		for j, b := range caches {
			one, other := of(t, a...), of(t, b...)
			same(t, one, other, i == j)
			holds(t, one, a...)
			holds(t, other, b...)
		}
		c := of(t, a...)
		same(t, c, c, true)
	}
}

// P11.1: how a cache came to its replies does not matter to Same.
func TestSameByAnyWay(t *testing.T) {
	one, other := fresh(t, 3), fresh(t, 3)
	put(t, one, 2, 1, 8)
	put(t, one, 0, 4, 3)
	put(t, one, 2, 6, 9)
	notPut(t, one, 1, 0, 5)
	put(t, other, 2, 6, 9)
	same(t, one, other, false)
	put(t, other, 0, 2, 3)
	same(t, one, other, false)
	put(t, other, 0, 4, 3)
	notPut(t, other, 0, 4, 2)
	notPut(t, other, 3, 1, 1)
	same(t, one, other, true)
	put(t, one, 1, 1, 1)
	same(t, one, other, false)
}

// P11.1: a clone has the same clients and replies; from then on each goes its own way.
func TestClone(t *testing.T) {
	c := of(t, reply{3, 9}, reply{}, reply{4, 0})
	other := c.Clone()
	if other == c {
		t.Fatal("Clone() returns the same object")
	}
	same(t, c, other, true)
	holds(t, other, reply{3, 9}, reply{}, reply{4, 0})

	put(t, c, 0, 5, 1)
	put(t, c, 1, 2, 2)
	holds(t, other, reply{3, 9}, reply{}, reply{4, 0})
	same(t, c, other, false)

	put(t, other, 0, 4, 7)
	put(t, other, 2, 9, -7)
	notPut(t, other, 3, 1, 1)
	holds(t, c, reply{5, 1}, reply{2, 2}, reply{4, 0})
	holds(t, other, reply{4, 7}, reply{}, reply{9, -7})
}

// P11.1: clones of a new cache, and of clones.
func TestCloneOfNewAndOfClone(t *testing.T) {
	for clients := 1; clients <= api.MaxClients; clients++ {
		c := fresh(t, clients)
		one := c.Clone()
		same(t, c, one, true)
		put(t, one, clients-1, 1, 1)
		two := one.Clone()
		put(t, two, clients-1, 2, 2)
		notPut(t, two, clients, 1, 1)
		has(t, c, clients-1, reply{})
		has(t, one, clients-1, reply{1, 1})
		has(t, two, clients-1, reply{2, 2})
		same(t, c, fresh(t, clients), true)
	}
}

// P11.1: two caches have nothing in common.
func TestCachesApart(t *testing.T) {
	c, other := fresh(t, 2), fresh(t, 2)
	put(t, c, 0, 5, 1)
	holds(t, other, reply{}, reply{})
	put(t, other, 0, 4, 2)
	holds(t, c, reply{5, 1}, reply{})
}

// A model is a list of all replies that were taken, for some number of clients.
type model struct {
	clients int
	taken   [][3]int // client, time, result
}

// last returns the last reply of the client, which is the latest.
func (m *model) last(client int) reply {
	for _, p := range slices.Backward(m.taken) {
		if p[0] == client {
			return reply{p[1], p[2]}
		}
	}
	return reply{}
}

func (m *model) put(client, time, res int) bool {
	if slices.Index([]int{0, 1, 2, 3}[:m.clients], client) < 0 || m.last(client).time >= time {
		return false
	}
	m.taken = append(m.taken, [3]int{client, time, res})
	return true
}

// same reports whether both models have as many clients and the same last replies.
func (m *model) same(other *model) bool {
	for client := range api.MaxClients {
		if m.last(client) != other.last(client) {
			return false
		}
	}
	return m.clients == other.clients
}

// P11.1: any calls, on a cache and on clones of it, answer as the model.
func TestAnyCalls(t *testing.T) {
	r := rand.New(rand.NewPCG(11, 1))
	for round := range 80 {
		clients := 1 + round%api.MaxClients
		caches, models := []*cache.Cache{fresh(t, clients)}, []*model{{clients: clients}}
		for range 60 {
			i := r.IntN(len(caches))
			client, time, res := r.IntN(api.MaxClients+2)-1, r.IntN(24)-2, r.IntN(7)-3
			if got, want := caches[i].Put(client, time, res), models[i].put(client, time, res); got != want {
				t.Errorf("Put(%d, %d, %d) = %v; want %v", client, time, res, got, want)
			}
			if r.IntN(25) == 0 {
				caches = append(caches, caches[i].Clone())
				models = append(models, &model{clients, slices.Clone(models[i].taken)})
			}
			for j, c := range caches {
				for client := -1; client <= api.MaxClients; client++ {
					has(t, c, client, models[j].last(client))
				}
				same(t, c, caches[i], models[j].same(models[i]))
			}
		}
	}
}
