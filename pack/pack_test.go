package pack_test

import (
	"bytes"
	"math"
	"math/rand/v2"
	"reflect"
	"slices"
	"testing"

	"psephos/api"
	"psephos/pack"
)

const (
	top  = 1<<40 - 1
	half = 1 << 39
)

// A kind is one of the values that are written, with its two calls, which take and give pointers and values of its own type as any.
type kind struct {
	name string
	make func() any // a pointer to a value of this kind, with something in every list
	put  func(v any) ([]byte, bool)
	take func(b []byte, at int) (any, int, bool)
}

func kindOf[T any](name string, value func() T, put func(T) ([]byte, bool), take func([]byte, int) (T, int, bool)) kind {
	return kind{
		name: name,
		make: func() any { v := value(); return &v },
		put:  func(v any) ([]byte, bool) { return put(*v.(*T)) },
		take: func(b []byte, at int) (any, int, bool) {
			v, next, ok := take(b, at)
			return &v, next, ok
		},
	}
}

func kinds() []kind {
	return []kind{
		kindOf("Req", func() api.Req { return batch()[0] }, pack.Req, pack.TakeReq),
		kindOf("Batch", batch, pack.Batch, pack.TakeBatch),
		kindOf("Votes", votes, pack.Votes, pack.TakeVotes),
		kindOf("Certs", certs, pack.Certs, pack.TakeCerts),
		kindOf("Parts", parts, pack.Parts, pack.TakeParts),
	}
}

func batch() []api.Req {
	return []api.Req{
		{Client: 1, Time: 300, Op: api.Op{Kind: api.Put, Key: 5, Val: -7}, Seal: 9},
		{Client: 2, Time: 1 << 20, Op: api.Op{Kind: api.Sum, Key: -64, Val: 64}, Seal: 1000},
	}
}

func votes() []api.Vote {
	return []api.Vote{{Node: 2, Seal: 300}, {Node: 11, Seal: 0}, {Node: 128, Seal: 1 << 21}}
}

func certs() []api.Cert {
	return []api.Cert{
		{View: 3, Inst: 1, Seq: 16, Batch: batch(), Votes: votes()},
		{View: 200, Inst: 0, Seq: 4},
		{View: 4, Inst: 2, Seq: 1, Votes: votes()[:1]},
	}
}

func parts() []api.Part {
	return []api.Part{
		{From: 1, Votes: votes()[1:], Certs: certs(), Seal: 77},
		{From: 12, Seal: 130},
		{From: 3, Votes: votes(), Certs: certs()[1:2], Seal: 5},
	}
}

// A chunk is one number of a value as it is written.
type chunk struct {
	n      int // the number that the bytes stand for
	length bool
}

// number is chapter 1's rule, built from the highest group down, so that it shares nothing with the program's way.
func number(n int) []byte {
	var b []byte
	for shift := 35; shift >= 0; shift -= 7 {
		group := n / (1 << shift) % 128
		if len(b) > 0 {
			group += 128
		}
		if group > 0 || shift == 0 {
			b = append(b, byte(group))
		}
	}
	slices.Reverse(b)
	return b
}

// chunks walks over a value as package api declares its type.
func chunks(v reflect.Value, signed bool) []chunk {
	var l []chunk
	switch v.Kind() {
	case reflect.Int:
		n := int(v.Int())
		switch {
		case signed && n < 0:
			n = -2*n - 1
		case signed:
			n = 2 * n
		}
		l = append(l, chunk{n, false})
	case reflect.Struct:
		for i := range v.NumField() {
			name := v.Type().Field(i).Name
			l = append(l, chunks(v.Field(i), name == "Key" || name == "Val")...)
		}
	case reflect.Slice:
		l = append(l, chunk{v.Len(), true})
		for i := range v.Len() {
			l = append(l, chunks(v.Index(i), false)...)
		}
	}
	return l
}

// written returns what v, a pointer to a value, is written as by the chapter's rule, whatever its lists' lengths.
func written(v any) []byte {
	var b []byte
	for _, c := range chunks(reflect.ValueOf(v).Elem(), false) {
		b = append(b, number(c.n)...)
	}
	return b
}

// A place is a field or a list within a value.
type place struct {
	path string
	v    reflect.Value
}

// places lists the numbers and the lists of a value.
func places(path string, v reflect.Value) (numbers, lists []place) {
	switch v.Kind() {
	case reflect.Int:
		numbers = append(numbers, place{path, v})
	case reflect.Struct:
		for i := range v.NumField() {
			n, l := places(path+"."+v.Type().Field(i).Name, v.Field(i))
			numbers, lists = append(numbers, n...), append(lists, l...)
		}
	case reflect.Slice:
		lists = append(lists, place{path, v})
		for i := range v.Len() {
			n, l := places(path+"["+string(rune('0'+i))+"]", v.Index(i))
			numbers, lists = append(numbers, n...), append(lists, l...)
		}
	}
	return numbers, lists
}

func (p place) signed() bool {
	name := p.path[len(p.path)-4:]
	return name == ".Key" || name == ".Val"
}

// plain makes nil of every empty list in the value that v points to, since the two are one.
func plain(v any) any {
	_, lists := places("", reflect.ValueOf(v).Elem())
	for _, l := range lists {
		if l.v.Len() == 0 {
			l.v.SetZero()
		}
	}
	return v
}

// writes checks that v is written by the chapter's rule, and read again wherever it stands.
func writes(t *testing.T, k kind, v any, what string) {
	t.Helper()
	want := written(v)
	b, ok := k.put(v)
	if !ok || !bytes.Equal(b, want) {
		t.Errorf("%s of %s = %.60v, %v; want %.60v, true", k.name, what, b, ok, want)
		return
	}
	reads(t, k, want, 0, v, len(want), what)
	among := append(append([]byte{128, 0, 255}, want...), 128, 0, 1)
	reads(t, k, among, 3, v, 3+len(want), what+" among others")
}

// reads checks that the value at index at is the one that v points to, and ends at next.
func reads(t *testing.T, k kind, b []byte, at int, v any, next int, what string) {
	t.Helper()
	if got, end, ok := k.take(b, at); !ok || end != next || !reflect.DeepEqual(plain(got), plain(v)) {
		t.Errorf("Take%s of %s = %.200v, %d, %v; want %.200v, %d, true", k.name, what, got, end, ok, v, next)
	}
}

// unwritten checks that v has no bytes.
func unwritten(t *testing.T, k kind, v any, what string) {
	t.Helper()
	if b, ok := k.put(v); len(b) != 0 || ok {
		t.Errorf("%s of %s = %.60v, %v; want none, false", k.name, what, b, ok)
	}
}

// refuses checks that nothing is taken at index at.
func refuses(t *testing.T, k kind, b []byte, at int, what string) {
	t.Helper()
	got, next, ok := k.take(b, at)
	if ok || next != 0 || !reflect.ValueOf(plain(got)).Elem().IsZero() {
		t.Errorf("Take%s of %s = %.200v, %d, %v; want nothing, 0, false", k.name, what, got, next, ok)
	}
}

// P2.1: single values of each kind and their bytes, as the chapter and package api say them.
func TestBytes(t *testing.T) {
	req := api.Req{Client: 3, Time: 300, Op: api.Op{Kind: 2, Key: -1, Val: 64}, Seal: 128}
	reqBytes := []byte{3, 172, 2, 2, 1, 128, 1, 128, 1}
	cert := api.Cert{View: 5, Inst: 2, Seq: 16, Batch: []api.Req{req}, Votes: []api.Vote{{Node: 1, Seal: 4}}}
	certBytes := slices.Concat([]byte{5, 2, 16, 1}, reqBytes, []byte{1, 1, 4})
	part := api.Part{From: 9, Votes: []api.Vote{{Node: 6, Seal: 7}}, Certs: []api.Cert{cert}, Seal: 200}
	partBytes := slices.Concat([]byte{9, 1, 6, 7, 1}, certBytes, []byte{200, 1})
	k := kinds()
	for _, c := range []struct {
		k    kind
		v    any
		want []byte
	}{
		{k[0], &api.Req{}, []byte{0, 0, 0, 0, 0, 0}},
		{k[0], &req, reqBytes},
		{k[1], &[]api.Req{}, []byte{0}},
		{k[1], &[]api.Req{req}, append([]byte{1}, reqBytes...)},
		{k[1], &[]api.Req{{Client: 1}, req}, append([]byte{2, 1, 0, 0, 0, 0, 0}, reqBytes...)},
		{k[2], &[]api.Vote{}, []byte{0}},
		{k[2], &[]api.Vote{{Node: 2, Seal: 300}}, []byte{1, 2, 172, 2}},
		{k[2], &[]api.Vote{{Node: 2, Seal: 300}, {Node: 1, Seal: 3}}, []byte{2, 2, 172, 2, 1, 3}},
		{k[3], &[]api.Cert{}, []byte{0}},
		{k[3], &[]api.Cert{{View: 1, Inst: 2, Seq: 3}}, []byte{1, 1, 2, 3, 0, 0}},
		{k[3], &[]api.Cert{cert}, append([]byte{1}, certBytes...)},
		{k[4], &[]api.Part{}, []byte{0}},
		{k[4], &[]api.Part{{From: 3, Seal: 4}}, []byte{1, 3, 0, 0, 4}},
		{k[4], &[]api.Part{part, {From: 1}}, slices.Concat([]byte{2}, partBytes, []byte{1, 0, 0, 0})},
	} {
		if b, ok := c.k.put(c.v); !ok || !bytes.Equal(b, c.want) {
			t.Errorf("%s(%v) = %v, %v; want %v, true", c.k.name, c.v, b, ok, c.want)
		}
		reads(t, c.k, c.want, 0, c.v, len(c.want), "bytes")
	}
}

// P2.1: a list that is nil is one that is empty.
func TestNilAndEmpty(t *testing.T) {
	for _, k := range kinds() {
		_, lists := places(k.name, reflect.ValueOf(k.make()).Elem())
		for i := range lists {
			none, empty := k.make(), k.make()
			_, l := places(k.name, reflect.ValueOf(none).Elem())
			l[i].v.SetZero()
			writes(t, k, none, l[i].path+" nil")
			_, l = places(k.name, reflect.ValueOf(empty).Elem())
			l[i].v.Set(reflect.MakeSlice(l[i].v.Type(), 0, 3))
			writes(t, k, empty, l[i].path+" empty")
		}
	}
}

// P2.1, P2.2: what each number of a value can be written with, at its least and at its greatest, and what it cannot.
func TestNumbers(t *testing.T) {
	for _, k := range kinds() {
		v := k.make()
		writes(t, k, v, "an ordinary value")
		numbers, _ := places(k.name, reflect.ValueOf(v).Elem())
		for _, p := range numbers {
			least, greatest := 0, top
			if p.signed() {
				least, greatest = -half, half-1
			}
			old := p.v.Int()
			for _, n := range []int{0, 1, 63, 64, 127, 128, half - 1, least, least + 1, greatest - 1, greatest} {
				p.v.SetInt(int64(n))
				writes(t, k, v, p.path+" at an edge")
			}
			for _, n := range []int{least - 1, least - 2, greatest + 1, greatest + 2, math.MinInt, math.MinInt + 1, math.MaxInt} {
				p.v.SetInt(int64(n))
				unwritten(t, k, v, p.path+" beyond an edge")
			}
			p.v.SetInt(old)
		}
	}
}

// P2.1, P2.2: lists of every place at the lengths around MaxList.
func TestLists(t *testing.T) {
	for _, k := range kinds() {
		v := k.make()
		_, lists := places(k.name, reflect.ValueOf(v).Elem())
		for _, p := range lists {
			old := reflect.ValueOf(p.v.Interface())
			for _, size := range []int{1, 127, 128, api.MaxList - 1, api.MaxList} {
				p.v.Set(longer(old, size))
				writes(t, k, v, p.path+" long")
			}
			p.v.Set(longer(old, 1000).Slice(0, api.MaxList))
			writes(t, k, v, p.path+" with more memory behind it")
			for _, size := range []int{api.MaxList + 1, api.MaxList + 2, 1000, 1 << 15} {
				p.v.Set(longer(old, size))
				unwritten(t, k, v, p.path+" too long")
				refuses(t, k, written(v), 0, p.path+" too long")
			}
			p.v.Set(old)
		}
	}
}

// longer returns a list of that size, which repeats the elements of l, or zero values if it has none.
func longer(l reflect.Value, size int) reflect.Value {
	out := reflect.MakeSlice(l.Type(), size, size)
	for i := 0; i < size && l.Len() > 0; i++ {
		out.Index(i).Set(l.Index(i % l.Len()))
	}
	return out
}

// P2.1: an index that is not there.
func TestIndex(t *testing.T) {
	for _, k := range kinds() {
		b := written(k.make())
		for _, at := range []int{-1, -2, -len(b), len(b), len(b) + 1, math.MinInt, math.MaxInt} {
			refuses(t, k, b, at, "an index that is not there")
		}
		for _, at := range []int{-1, 0, 1} {
			refuses(t, k, nil, at, "no bytes")
		}
	}
}

// P2.1: bytes that end within a value, even where more memory follows them.
func TestEndsWithin(t *testing.T) {
	for _, k := range kinds() {
		b := written(k.make())
		for size := range len(b) {
			refuses(t, k, b[:size], 0, "bytes that end within it")
			refuses(t, k, append([]byte{0}, b[:size]...), 1, "bytes that end within it")
		}
	}
}

// P2.1: a number within a value that is written in another way, or is too great, and a length above MaxList.
func TestBadNumbers(t *testing.T) {
	for _, k := range kinds() {
		v := k.make()
		l := chunks(reflect.ValueOf(v).Elem(), false)
		for i, c := range l {
			padded := number(c.n)
			padded[len(padded)-1] += 128
			for _, bad := range [][]byte{
				append(padded, 0),
				append(slices.Clone(padded), 128, 0),
				{255, 255, 255, 255, 255, 32},
				{128, 128, 128, 128, 128, 128, 1},
			} {
				refuses(t, k, instead(l, i, bad), 0, "a field that is no number")
			}
			if !c.length {
				continue
			}
			for _, n := range []int{api.MaxList + 1, api.MaxList + 2, 1 << 20, 1 << 32, 1<<32 + c.n, top} {
				refuses(t, k, instead(l, i, number(n)), 0, "a length above MaxList")
				refuses(t, k, append(instead(l, i, number(n)), make([]byte, 1<<14)...), 0, "a length above MaxList")
			}
		}
	}
}

// instead returns the bytes of l, but with other ones in the place of its i-th number.
func instead(l []chunk, i int, other []byte) []byte {
	var b []byte
	for j, c := range l {
		if j == i {
			b = append(b, other...)
		} else {
			b = append(b, number(c.n)...)
		}
	}
	return b
}

// P2.1: of several bad fields each alone is enough, whatever the others are.
func TestSeveralBad(t *testing.T) {
	for _, k := range kinds() {
		v := k.make()
		numbers, _ := places(k.name, reflect.ValueOf(v).Elem())
		for i, p := range numbers {
			old, last := p.v.Int(), numbers[len(numbers)-1-i]
			oldLast := last.v.Int()
			p.v.SetInt(-half - 1)
			last.v.SetInt(1 << 40)
			unwritten(t, k, v, p.path+" and another one")
			last.v.SetInt(oldLast)
			p.v.SetInt(old)
		}
	}
}

// P2.2: any values that can be written are read as they were.
func TestThereAndBack(t *testing.T) {
	r := rand.New(rand.NewPCG(2, 2))
	for _, k := range kinds() {
		for range 300 {
			v := k.make()
			scramble(r, reflect.ValueOf(v).Elem(), false, 0)
			writes(t, k, v, "any value")
		}
	}
}

// scramble puts any numbers into a value, and any number of elements into its lists.
func scramble(r *rand.Rand, v reflect.Value, signed bool, deep int) {
	switch v.Kind() {
	case reflect.Int:
		n := r.Int64N(1 << (1 + r.IntN(40)))
		if signed {
			n -= 1 << 39
			n >>= r.IntN(40)
		}
		v.SetInt(n)
	case reflect.Struct:
		for i := range v.NumField() {
			name := v.Type().Field(i).Name
			scramble(r, v.Field(i), name == "Key" || name == "Val", deep)
		}
	case reflect.Slice:
		size := r.IntN(6 - deep)
		v.Set(reflect.MakeSlice(v.Type(), size, size))
		for i := range size {
			scramble(r, v.Index(i), false, deep+1)
		}
	}
}

// P2.1: arguments stay as they are, also beyond their length, and every list that is given out is new.
func TestMemory(t *testing.T) {
	for _, k := range kinds() {
		v := k.make()
		b, _ := k.put(v)
		if !reflect.DeepEqual(v, k.make()) {
			t.Errorf("%s changed its argument to %v", k.name, v)
		}
		clear(b[:cap(b)])
		b, _ = k.put(v)
		if !bytes.Equal(b, written(v)) {
			t.Errorf("%s of the same value = %v, once an earlier result was cleared; want %v", k.name, b, written(v))
		}
		behind := append(slices.Clone(b), 1, 2, 3, 4)
		one, _, _ := k.take(behind[:len(b)], 0)
		two, _, _ := k.take(behind[:len(b)], 0)
		if !bytes.Equal(behind, append(slices.Clone(b), 1, 2, 3, 4)) {
			t.Errorf("Take%s changed its argument to %v", k.name, behind)
		}
		wipe(reflect.ValueOf(one).Elem())
		clear(behind)
		if !reflect.DeepEqual(plain(two), plain(k.make())) {
			t.Errorf("Take%s gave out memory that is in use elsewhere: %v", k.name, two)
		}
	}
}

// P2.1: no two lists within one result share memory, not even beyond their length.
func TestListsApart(t *testing.T) {
	for _, k := range kinds() {
		got, _, _ := k.take(written(k.make()), 0)
		_, lists := places(k.name, reflect.ValueOf(got).Elem())
		for i := range lists {
			got, _, _ := k.take(written(k.make()), 0)
			want := k.make()
			_, l := places(k.name, reflect.ValueOf(got).Elem())
			spare(l[i].v)
			if !reflect.DeepEqual(plain(got), plain(want)) {
				t.Errorf("Take%s: what stands behind %s belongs to another list: %v", k.name, l[i].path, got)
			}
		}
	}
}

// spare overwrites what a list has beyond its length.
func spare(l reflect.Value) {
	for i := l.Len(); i < l.Cap(); i++ {
		wipe(l.Slice(0, l.Cap()).Index(i))
	}
}

// wipe overwrites all that a value holds, also beyond the length of its lists.
func wipe(v reflect.Value) {
	switch v.Kind() {
	case reflect.Int:
		v.SetInt(-99)
	case reflect.Struct:
		for i := range v.NumField() {
			wipe(v.Field(i))
		}
	case reflect.Slice:
		for i := range v.Cap() {
			wipe(v.Slice(0, v.Cap()).Index(i))
		}
	}
}

// P2.2: any bytes at any index are either refused or written again as exactly the bytes that were read.
func FuzzTake(f *testing.F) {
	for i, k := range kinds() {
		b := written(k.make())
		f.Add(b, 0, i)
		f.Add(append([]byte{128, 0}, b...), 2, i)
		f.Add(b[:len(b)/2], 0, i)
	}
	f.Add([]byte{}, 0, 0)
	f.Add([]byte{1}, -1, 1)
	f.Add([]byte{129, 2, 0}, 0, 2)
	f.Fuzz(func(t *testing.T, b []byte, at, which int) {
		all := kinds()
		k := all[(which%len(all)+len(all))%len(all)]
		v, next, ok := k.take(b, at)
		if !ok {
			refuses(t, k, b, at, "what it refused")
			return
		}
		if got, ok := k.put(v); !ok || !bytes.Equal(got, b[at:next]) {
			t.Errorf("%s of what stands in %v at %d = %v, %v; want %v, true", k.name, b, at, got, ok, b[at:next])
		}
	})
}
