package reqs_test

import (
	"bytes"
	"math"
	"math/rand/v2"
	"slices"
	"testing"

	"psephos/api"
	"psephos/notary"
	"psephos/pack"
	"psephos/reqs"
)

// top is the greatest number that can be written.
const top = 1<<40 - 1

// Places of a request's numbers, in the order in which requests are compared.
const (
	client = iota
	time
	kind
	key
	val
	seal
	size
)

// numbers are the numbers of a request by their places.
type numbers [size]int

func (l numbers) req() api.Req {
	return api.Req{Client: l[client], Time: l[time], Op: api.Op{Kind: l[kind], Key: l[key], Val: l[val]}, Seal: l[seal]}
}

func (l numbers) with(place, n int) numbers {
	l[place] = n
	return l
}

// A form says from where to where each number of a request may go.
type form struct{ lo, hi numbers }

// forms are the chapter's sentence on Valid for two clients, an operation's kind each.
func forms() []form {
	lo := numbers{0, 1, 0, 0, 0, 0}
	hi := numbers{1, 1 << 20, 0, 63, 0, top}
	least, most := -1<<31+1, 1<<31-1
	return []form{
		{lo.with(kind, 1).with(val, least), hi.with(kind, 1).with(val, most)},
		{lo.with(kind, 2), hi.with(kind, 2)},
		{lo.with(kind, 3).with(val, least), hi.with(kind, 3).with(val, most)},
		{lo.with(kind, 4), hi.with(kind, 4)},
		{lo.with(kind, 5), hi.with(kind, 5).with(key, 0)},
	}
}

// far are numbers that lie in none of these ranges, and would if they were cut, turned round or wrapped round.
func far() []int {
	return []int{
		math.MinInt, math.MinInt + 1, math.MinInt + 3, -1 << 40, -1<<40 + 1, -1 << 32, -1<<32 + 1,
		1 << 40, 1<<40 + 1, 1 << 41, 1<<48 + 1, 1 << 62, math.MaxInt - 1, math.MaxInt,
	}
}

// around are numbers at, within and near a range.
func around(lo, hi int) []int {
	l := []int{-lo, -hi, (lo + hi) / 2}
	for near := -2; near <= 2; near++ {
		l = append(l, lo+near, hi+near, near)
	}
	return l
}

// valid checks Valid.
func valid(t *testing.T, r api.Req, clients int, want bool) {
	t.Helper()
	if got := reqs.Valid(r, clients); got != want {
		t.Errorf("Valid(%v, %d) = %v; want %v", r, clients, got, want)
	}
}

// P5.1: each number in its range and out of it, for each kind, beside the least and the greatest others.
func TestValidEachNumber(t *testing.T) {
	for _, f := range forms() {
		for _, base := range []numbers{f.lo, f.hi} {
			valid(t, base.req(), 2, true)
			for place := range size {
				if place == kind {
					continue
				}
				for _, n := range append(around(f.lo[place], f.hi[place]), far()...) {
					valid(t, base.with(place, n).req(), 2, f.lo[place] <= n && n <= f.hi[place])
				}
			}
		}
	}
}

// P5.1: the kinds are those from Put to Sum.
func TestValidKind(t *testing.T) {
	base := numbers{1, 7, 0, 0, 0, 9}
	for n := -300; n <= 300; n++ {
		valid(t, base.with(kind, n).req(), 2, n >= 1 && n <= 5)
	}
	for _, n := range far() {
		valid(t, base.with(kind, n).req(), 2, false)
	}
}

// P5.1: a key and a value, each of them only with the kinds that have it.
func TestValidByKind(t *testing.T) {
	for _, c := range []struct {
		op   api.Op
		want bool
	}{
		{api.Op{Kind: api.Put, Key: 63, Val: -5}, true},
		{api.Op{Kind: api.Get, Key: 63}, true},
		{api.Op{Kind: api.Get, Key: 63, Val: 1}, false},
		{api.Op{Kind: api.Get, Key: 63, Val: -1}, false},
		{api.Op{Kind: api.Add, Key: 63, Val: 5}, true},
		{api.Op{Kind: api.Del, Key: 63}, true},
		{api.Op{Kind: api.Del, Key: 63, Val: 1}, false},
		{api.Op{Kind: api.Sum}, true},
		{api.Op{Kind: api.Sum, Key: 1}, false},
		{api.Op{Kind: api.Sum, Val: 1}, false},
		{api.Op{}, false},
	} {
		valid(t, api.Req{Client: 1, Time: 3, Op: c.op}, 2, c.want)
	}
}

// P5.1: clients are those below their number, however great it is; with no clients nothing is valid.
func TestValidClients(t *testing.T) {
	for _, clients := range append(far(), -1, 0, 1, 2, 3, 4, 5, 6, 1<<20) {
		for _, n := range append(far(), -1, 0, 1, 2, 3, 4, 5, clients-1, clients, clients+1) {
			r := api.Req{Client: n, Time: 1, Op: api.Op{Kind: api.Sum}}
			valid(t, r, clients, n >= 0 && n < clients)
		}
	}
}

// told checks Body, which is what pack writes of the request with no seal.
func told(t *testing.T, r api.Req) {
	t.Helper()
	bare := r
	bare.Seal = 0
	want, is := pack.Req(bare)
	if got, ok := reqs.Body(r); !bytes.Equal(got, want) || ok != is {
		t.Errorf("Body(%v) = %v, %v; want %v, %v", r, got, ok, want, is)
	}
}

// P5.1: the bytes of a body; its seal is not in it, whichever it is.
func TestBody(t *testing.T) {
	r := api.Req{Client: 1, Time: 300, Op: api.Op{Kind: api.Put, Key: 5, Val: -7}}
	for _, n := range append(far(), 0, 1, 9, -1, top) {
		r.Seal = n
		if got, ok := reqs.Body(r); !bytes.Equal(got, []byte{1, 172, 2, 1, 10, 13, 0}) || !ok {
			t.Errorf("Body(%v) = %v, %v; want [1 172 2 1 10 13 0], true", r, got, ok)
		}
	}
}

// P5.1: a body is there exactly if it can be written, be the request valid or not.
func TestBodyOfAny(t *testing.T) {
	base := numbers{1, 7, 2, 5, 0, 9}
	for place := range size {
		for _, n := range append(around(-1<<39, 1<<39-1), append(around(0, top), far()...)...) {
			told(t, base.with(place, n).req())
			signed := place == key || place == val
			writes := place == seal || signed && n >= -1<<39 && n < 1<<39 || !signed && n >= 0 && n <= top
			if _, ok := reqs.Body(base.with(place, n).req()); ok != writes {
				t.Errorf("Body with %d at place %d is %v; want %v", n, place, ok, writes)
			}
		}
	}
	if b, ok := reqs.Body(api.Req{Client: -1}); b != nil || ok {
		t.Errorf("Body of no client's = %v, %v; want none, false", b, ok)
	}
}

// sealed checks Sealed, and that asking gives no seal.
func sealed(t *testing.T, r api.Req, clients int, n *notary.Notary, want bool) {
	t.Helper()
	before := n.Len()
	if got := reqs.Sealed(r, clients, n); got != want {
		t.Errorf("Sealed(%v, %d) = %v; want %v", r, clients, got, want)
	}
	if n.Len() != before {
		t.Errorf("Sealed(%v, %d) gave a seal", r, clients)
	}
}

// made returns a request that Make has to make.
func made(t *testing.T, n *notary.Notary, clients, client, time int, op api.Op) api.Req {
	t.Helper()
	r, err := reqs.Make(n, clients, client, time, op)
	if err != api.OK {
		t.Fatalf("Make(%d, %d, %d, %v) = error %d", clients, client, time, op, err)
	}
	return r
}

// few are valid requests of two clients, of each kind, at the ranges' ends.
func few(t *testing.T, n *notary.Notary) []api.Req {
	t.Helper()
	var l []api.Req
	for _, f := range forms() {
		for _, base := range []numbers{f.lo, f.hi} {
			r := base.req()
			l = append(l, made(t, n, 2, r.Client, r.Time, r.Op))
		}
	}
	return l
}

// P5.1: what Make made is sealed, and is no more once anything in it is another.
func TestSealed(t *testing.T) {
	n := notary.New()
	for _, r := range few(t, n) {
		sealed(t, r, 2, n, true)
		sealed(t, r, 4, n, true)
		sealed(t, r, r.Client+1, n, true)
		sealed(t, r, r.Client, n, false)
		sealed(t, r, 0, n, false)
		sealed(t, r, 2, notary.New(), false)
		l := numbers{r.Client, r.Time, r.Op.Kind, r.Op.Key, r.Op.Val, r.Seal}
		for place := range size {
			for _, other := range append(around(0, l[place]), far()...) {
				if other != l[place] {
					sealed(t, l.with(place, other).req(), 2, n, false)
				}
			}
		}
	}
}

// P5.1: a seal has to be that of the client's own party, for the body and nothing else.
func TestSealedByAnother(t *testing.T) {
	n := notary.New()
	r := api.Req{Client: 1, Time: 3, Op: api.Op{Kind: api.Put, Key: 2, Val: 4}}
	body, _ := reqs.Body(r)
	for _, party := range []int{1, 0, 2, -1, 99, api.FirstClient, api.FirstClient + 2, -api.FirstClient - 1} {
		r.Seal = n.Seal(party, body)
		sealed(t, r, 2, n, false)
	}
	own := api.FirstClient + 1
	for _, text := range [][]byte{nil, body[1:], body[:len(body)-1], append(slices.Clone(body), 0)} {
		r.Seal = n.Seal(own, text)
		sealed(t, r, 2, n, false)
	}
	r.Seal = n.Len() + 1
	sealed(t, r, 2, n, false)
	whole, _ := pack.Req(r)
	n.Seal(own, whole)
	sealed(t, r, 2, n, false)
	r.Seal = 0
	sealed(t, r, 2, n, false)
	r.Seal = n.Seal(own, body)
	sealed(t, r, 2, n, true)
}

// P5.1: what is not valid is not sealed, even with the right seal.
func TestSealedNotValid(t *testing.T) {
	n := notary.New()
	for _, f := range forms() {
		for place := range seal {
			for _, other := range []int{f.lo[place] - 1, f.hi[place] + 1} {
				r := f.lo.with(place, other).req()
				if reqs.Valid(r, 2) {
					continue // the kind next to this one
				}
				body, ok := reqs.Body(r)
				if !ok {
					continue
				}
				r.Seal = n.Seal(api.FirstClient+r.Client, body)
				sealed(t, r, 2, n, false)
			}
		}
	}
	if n.Len() == 0 {
		t.Error("nothing was tried")
	}
}

// P5.1: a request without a body has no seal, though its client gave one for no bytes.
func TestSealedNoBody(t *testing.T) {
	n := notary.New()
	r := api.Req{Client: top + 1, Time: 3, Op: api.Op{Kind: api.Sum}}
	r.Seal = n.Seal(api.FirstClient+r.Client, nil)
	valid(t, r, math.MaxInt, true)
	sealed(t, r, math.MaxInt, n, false)
	r.Client = math.MaxInt - 1
	r.Seal = n.Seal(api.FirstClient+r.Client, nil)
	valid(t, r, math.MaxInt, true)
	sealed(t, r, math.MaxInt, n, false)
}

// P5.1: Make fills in its arguments and the client's seal, the same one for the same arguments.
func TestMake(t *testing.T) {
	n := notary.New()
	op := api.Op{Kind: api.Put, Key: 5, Val: -7}
	for i, c := range []struct {
		clients, client, time int
		op                    api.Op
		seal                  int
	}{
		{2, 1, 300, op, 1},
		{2, 1, 300, op, 1},
		{4, 1, 300, op, 1},
		{2, 0, 300, op, 2},
		{2, 1, 301, op, 3},
		{2, 1, 300, api.Op{Kind: api.Add, Key: 5, Val: -7}, 4},
		{2, 1, 300, api.Op{Kind: api.Put, Key: 6, Val: -7}, 5},
		{2, 1, 300, api.Op{Kind: api.Put, Key: 5, Val: 7}, 6},
		{2, 1, 300, api.Op{Kind: api.Sum}, 7},
		{1, 0, 300, op, 2},
		{2, 1, 300, op, 1},
	} {
		want := api.Req{Client: c.client, Time: c.time, Op: c.op, Seal: c.seal}
		got, err := reqs.Make(n, c.clients, c.client, c.time, c.op)
		if got != want || err != api.OK {
			t.Errorf("step %d: Make = %v, %d; want %v, 0", i, got, err, want)
		}
		sealed(t, got, c.clients, n, true)
		if body, _ := reqs.Body(want); !n.Check(api.FirstClient+c.client, body, c.seal) {
			t.Errorf("step %d: %d is not the client's seal of the body", i, c.seal)
		}
	}
	if n.Len() != 7 {
		t.Errorf("%d seals were given; want 7", n.Len())
	}
}

// makes checks that Make makes the request if it may be, and otherwise gives nothing, not even a seal.
func makes(t *testing.T, clients int, l numbers, want bool) {
	t.Helper()
	n := notary.New()
	r := l.with(seal, 0).req()
	got, err := reqs.Make(n, clients, r.Client, r.Time, r.Op)
	if want {
		r.Seal = 1
		if got != r || err != api.OK || n.Len() != 1 {
			t.Errorf("Make(%d, %v) = %v, %d with %d seals; want %v, 0 with 1", clients, l, got, err, n.Len(), r)
		}
	} else if (got != api.Req{}) || err != api.ErrArg || n.Len() != 0 {
		t.Errorf("Make(%d, %v) = %v, %d with %d seals; want none, %d with 0", clients, l, got, err, n.Len(), api.ErrArg)
	}
}

// P5.1: Make refuses exactly what is not valid.
func TestMakeEachNumber(t *testing.T) {
	for _, f := range forms() {
		for _, base := range []numbers{f.lo, f.hi} {
			for place := range seal {
				if place == kind {
					continue
				}
				for _, n := range append(around(f.lo[place], f.hi[place]), far()...) {
					makes(t, 2, base.with(place, n), f.lo[place] <= n && n <= f.hi[place])
				}
			}
		}
	}
	for _, n := range append(far(), -1, 0, 6, 7, 256, 257) {
		makes(t, 2, numbers{0, 1, n, 0, 0, 0}, false)
	}
	for _, clients := range []int{math.MinInt, -1, 0, 1, 3} {
		makes(t, clients, numbers{3, 1, 5, 0, 0, 0}, false)
		makes(t, clients, numbers{0, 1, 5, 0, 0, 0}, clients > 0)
	}
}

// P5.1: a client whose number can not be written has no body to seal.
func TestMakeNoBody(t *testing.T) {
	makes(t, math.MaxInt, numbers{top, 1, 5, 0, 0, 0}, true)
	for _, n := range []int{top + 1, math.MaxInt - 1} {
		makes(t, math.MaxInt, numbers{n, 1, 5, 0, 0, 0}, false)
	}
}

// before is the order of the chapter, number by number.
func before(a, b numbers) int {
	for place := range size {
		if a[place] < b[place] {
			return -1
		}
		if a[place] > b[place] {
			return 1
		}
	}
	return 0
}

// P5.2: one number decides, and those before it do so first.
func TestCompare(t *testing.T) {
	base := numbers{1, 2, 3, 4, 5, 6}
	for place := range size {
		for _, d := range []int{1, 2, 1 << 31, 1 << 32, 1 << 40} {
			less, more := base.with(place, base[place]-d), base.with(place, base[place]+d)
			for behind := place + 1; behind < size; behind++ {
				less, more = less.with(behind, math.MaxInt), more.with(behind, math.MinInt)
			}
			if got := reqs.Compare(less.req(), base.req()); got != -1 {
				t.Errorf("Compare(%v, %v) = %d; want -1", less, base, got)
			}
			if got := reqs.Compare(more.req(), base.req()); got != 1 {
				t.Errorf("Compare(%v, %v) = %d; want 1", more, base, got)
			}
		}
	}
}

// P5.2: every two requests of extreme numbers.
func TestCompareAll(t *testing.T) {
	all := []numbers{{}}
	for place := range size {
		var l []numbers
		for _, n := range []int{math.MinInt, 0, math.MaxInt} {
			for _, a := range all {
				l = append(l, a.with(place, n))
			}
		}
		all = l
	}
	for _, a := range all {
		for _, b := range all {
			if got, want := reqs.Compare(a.req(), b.req()), before(a, b); got != want {
				t.Fatalf("Compare(%v, %v) = %d; want %d", a, b, got, want)
			}
		}
	}
}

// some are requests of small numbers, so that many are alike.
func some(r *rand.Rand, most int) []api.Req {
	var l []api.Req
	for range r.IntN(most + 1) {
		var a numbers
		for place := range size {
			a[place] = r.IntN(2)
		}
		l = append(l, a.req())
	}
	return l
}

// same checks Same, whichever list comes first.
func same(t *testing.T, a, b []api.Req, want bool) {
	t.Helper()
	if reqs.Same(a, b) != want || reqs.Same(b, a) != want {
		t.Errorf("Same of %v and %v is %v, and the other way round %v; want %v", a, b, reqs.Same(a, b), reqs.Same(b, a), want)
	}
}

// P5.2: the same requests in the same order, number for number.
func TestSame(t *testing.T) {
	a, b := numbers{1, 2, 3, 4, 5, 6}.req(), numbers{0, 2, 3, 4, 5, 7}.req()
	same(t, nil, nil, true)
	same(t, nil, []api.Req{}, true)
	same(t, nil, []api.Req{{}}, false)
	same(t, []api.Req{a}, []api.Req{a}, true)
	same(t, []api.Req{a}, []api.Req{b}, false)
	same(t, []api.Req{a, b}, []api.Req{a, b}, true)
	same(t, []api.Req{a, b}, []api.Req{b, a}, false)
	same(t, []api.Req{a, b}, []api.Req{a}, false)
	same(t, []api.Req{a, b}, []api.Req{b}, false)
	same(t, []api.Req{a, a}, []api.Req{a}, false)
	same(t, []api.Req{b, a, b}, []api.Req{b, a, b}, true)
	base := numbers{1, 2, 3, 4, 5, 6}
	for place := range size {
		for _, n := range append(far(), -base[place], base[place]+1, base[place]+1<<32) {
			same(t, []api.Req{b, base.req()}, []api.Req{b, base.with(place, n).req()}, false)
		}
	}
}

// P5.2: Order sorts, and leaves each once; requests that differ in any number all stay.
func TestOrder(t *testing.T) {
	a, b, c := numbers{0, 9, 5, 9, 9, 9}.req(), numbers{1, 1, 1, 1, 1, 1}.req(), numbers{1, 1, 1, 1, 1, 2}.req()
	for _, x := range []struct{ l, want []api.Req }{
		{nil, nil},
		{[]api.Req{}, nil},
		{[]api.Req{{}}, []api.Req{{}}},
		{[]api.Req{c}, []api.Req{c}},
		{[]api.Req{c, b, a}, []api.Req{a, b, c}},
		{[]api.Req{a, b, c}, []api.Req{a, b, c}},
		{[]api.Req{b, b}, []api.Req{b}},
		{[]api.Req{b, c, b, a, c, b, a}, []api.Req{a, b, c}},
	} {
		if got := reqs.Order(x.l); !slices.Equal(got, x.want) {
			t.Errorf("Order(%v) = %v; want %v", x.l, got, x.want)
		}
	}
	base := numbers{1, 2, 3, 4, 5, 6}
	for place := range size {
		for _, n := range append(far(), -1, base[place]-1) {
			first, second := base.with(place, n), base
			if before(first, second) > 0 {
				first, second = second, first
			}
			got := reqs.Order([]api.Req{second.req(), first.req(), second.req()})
			if !slices.Equal(got, []api.Req{first.req(), second.req()}) {
				t.Errorf("Order = %v; want %v, %v", got, first, second)
			}
		}
	}
}

// P5.2: any list is ordered into an ascending one of the same requests, whatever order they came in.
func TestOrderAny(t *testing.T) {
	r := rand.New(rand.NewPCG(5, 2))
	for range 3000 {
		l := some(r, 40)
		got := reqs.Order(l)
		for i := range got {
			if i > 0 && reqs.Compare(got[i-1], got[i]) >= 0 {
				t.Fatalf("Order(%v) = %v, which is not ascending", l, got)
			}
			if !slices.Contains(l, got[i]) {
				t.Fatalf("Order(%v) has %v", l, got[i])
			}
		}
		for _, e := range l {
			if !slices.Contains(got, e) {
				t.Fatalf("Order(%v) = %v, without %v", l, got, e)
			}
		}
		r.Shuffle(len(l), func(i, j int) { l[i], l[j] = l[j], l[i] })
		if again := reqs.Order(l); !slices.Equal(got, again) {
			t.Fatalf("Order(%v) = %v; in another order it was %v", l, again, got)
		}
	}
}

// P5.2: Has finds a request wherever it is, and no other one.
func TestHas(t *testing.T) {
	base := numbers{1, 2, 3, 4, 5, 6}
	l := []api.Req{numbers{}.req(), base.req(), numbers{7, 7, 7, 7, 7, 7}.req()}
	for _, e := range l {
		if !reqs.Has(l, e) {
			t.Errorf("Has(%v, %v) = false", l, e)
		}
	}
	for place := range size {
		for _, n := range append(far(), 0, 7, -base[place], base[place]+1, base[place]+1<<32) {
			if e := base.with(place, n).req(); reqs.Has(l, e) {
				t.Errorf("Has(%v, %v) = true", l, e)
			}
		}
	}
	if reqs.Has(nil, api.Req{}) || reqs.Has([]api.Req{}, api.Req{}) {
		t.Error("an empty list has a request")
	}
	if reqs.Has(l[:2], l[2]) || reqs.Has(l[1:], l[0]) {
		t.Error("Has looks beyond the list")
	}
}

// batch checks Batch, and that asking gives no seal.
func batch(t *testing.T, l []api.Req, most, clients int, n *notary.Notary, want bool) {
	t.Helper()
	before := n.Len()
	if got := reqs.Batch(l, most, clients, n); got != want {
		t.Errorf("Batch(%v, %d, %d) = %v; want %v", l, most, clients, got, want)
	}
	if n.Len() != before {
		t.Errorf("Batch(%v, %d, %d) gave a seal", l, most, clients)
	}
}

// P5.2: ordered sealed requests are a batch of as many as they are, and of no fewer.
func TestBatch(t *testing.T) {
	n := notary.New()
	all := reqs.Order(few(t, n))
	if len(all) < 8 {
		t.Fatalf("only %d requests", len(all))
	}
	for from := range all {
		for to := from; to <= len(all); to++ {
			l := all[from:to]
			batch(t, l, len(l), 2, n, true)
			batch(t, l, len(l)+1, 2, n, true)
			batch(t, l, math.MaxInt, 2, n, true)
			batch(t, l, len(l)-1, 2, n, false)
			batch(t, l, -len(l)-1, 2, n, false)
			batch(t, l, math.MinInt, 2, n, false)
			batch(t, l, len(l), 0, n, len(l) == 0)
			batch(t, l, len(l), 2, notary.New(), len(l) == 0)
		}
	}
}

// P5.2: an empty list is a batch, unless fewer than none are allowed.
func TestBatchEmpty(t *testing.T) {
	n := notary.New()
	for _, l := range [][]api.Req{nil, {}} {
		batch(t, l, 0, 2, n, true)
		batch(t, l, 4, 0, n, true)
		batch(t, l, 4, math.MinInt, n, true)
		batch(t, l, -1, 2, n, false)
	}
}

// P5.2: one place out of order, one request twice, or one bad request, wherever it is, and it is no batch.
func TestBatchSpoilt(t *testing.T) {
	n := notary.New()
	all := reqs.Order(few(t, n))
	for i := range all {
		for j := range i {
			l := slices.Clone(all)
			l[i], l[j] = l[j], l[i]
			batch(t, l, len(l), 2, n, false)
			l = slices.Clone(all)
			l[i] = l[j]
			batch(t, l, len(l), 2, n, false)
		}
		l := slices.Insert(slices.Clone(all), i, all[i])
		batch(t, l, len(l), 2, n, false)
		for _, other := range []int{0, all[i].Seal + 1, -1, top, top + 1, math.MaxInt} {
			l := slices.Clone(all)
			l[i].Seal = other
			batch(t, l, len(l), 2, n, false)
		}
	}
}

// P5.2: of all lists of these requests, those are batches that Order leaves as they are.
func TestBatchAny(t *testing.T) {
	n := notary.New()
	all := few(t, n)
	r := rand.New(rand.NewPCG(5, 3))
	batches := 0
	for range 5000 {
		var l []api.Req
		for range r.IntN(5) {
			l = append(l, all[r.IntN(len(all))])
		}
		want := reqs.Same(l, reqs.Order(l))
		batch(t, l, api.MaxBatch, 2, n, want)
		batch(t, reqs.Order(l), api.MaxBatch, 2, n, true)
		if want {
			batches++
		}
	}
	if batches == 0 || batches == 5000 {
		t.Errorf("%d of 5000 lists are batches, which tells nothing", batches)
	}
}

// P5.2: the seals are compared last, though a notary gives only one for what they seal.
func TestBatchOneSeal(t *testing.T) {
	n := notary.New()
	r := made(t, n, 2, 1, 3, api.Op{Kind: api.Sum})
	other := r
	other.Seal++
	batch(t, []api.Req{r}, 4, 2, n, true)
	batch(t, []api.Req{r, other}, 4, 2, n, false)
	batch(t, []api.Req{r, r}, 4, 2, n, false)
}

// P5.2: lists that are handed in stay as they are, what lies behind them is not looked at, and each answer is new.
func TestMemory(t *testing.T) {
	n := notary.New()
	all := few(t, n)
	for _, l := range [][]api.Req{all, reqs.Order(all), {all[3], all[3], all[1]}, all[:1]} {
		whole := append(slices.Clone(l), numbers{9, 9, 9, 9, 9, 9}.req(), all[0])
		held := slices.Clone(whole)
		part := whole[:len(l)]
		want := slices.Clone(reqs.Order(part))
		got := reqs.Order(part)
		for i := range got[:cap(got)] {
			got[:cap(got)][i] = api.Req{Client: 77}
		}
		if again := reqs.Order(part); !slices.Equal(again, want) {
			t.Errorf("Order = %v once an earlier answer was written to; want %v", again, want)
		}
		same(t, part, l, true)
		batch(t, part, len(part), 2, n, slices.Equal(part, want))
		if reqs.Has(part, numbers{9, 9, 9, 9, 9, 9}.req()) {
			t.Errorf("Has looks behind %v", part)
		}
		if !slices.Equal(whole, held) {
			t.Errorf("%v was changed to %v", held, whole)
		}
	}
	r := all[0]
	b, _ := reqs.Body(r)
	held := slices.Clone(b)
	clear(b)
	if again, _ := reqs.Body(r); !bytes.Equal(again, held) {
		t.Errorf("Body = %v once an earlier answer was written to; want %v", again, held)
	}
}
