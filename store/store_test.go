package store_test

import (
	"math"
	"math/rand/v2"
	"slices"
	"testing"

	"psephos/api"
	"psephos/store"
)

const top = api.MaxVal - 1 // the greatest value; the least is -top

func put(key, val int) api.Op { return api.Op{Kind: api.Put, Key: key, Val: val} }
func get(key int) api.Op      { return api.Op{Kind: api.Get, Key: key} }
func add(key, val int) api.Op { return api.Op{Kind: api.Add, Key: key, Val: val} }
func del(key int) api.Op      { return api.Op{Kind: api.Del, Key: key} }
func sum() api.Op             { return api.Op{Kind: api.Sum} }

// kinds are those of operations.
func kinds() []int {
	return []int{api.Put, api.Get, api.Add, api.Del, api.Sum}
}

// noKinds are numbers that are no kinds; some would be if they were cut.
func noKinds() []int {
	return []int{
		math.MinInt, math.MinInt + 1, -1 << 32, -1<<32 + 1, -256, -255, -5, -4, -3, -2, -1, 0, 6, 7, 8, 9, 10, 99, 255, 256,
		257, 261, 1<<16 + 1, 1 << 32, 1<<32 + 1, 1<<32 + 5, math.MaxInt - 1, math.MaxInt,
	}
}

// noKeys are numbers that are no keys; some would be if they were cut or wrapped round.
func noKeys() []int {
	return []int{
		math.MinInt, math.MinInt + 1, -1 << 32, -1<<32 + 1, -256, -api.MaxKey - 1, -api.MaxKey, -api.MaxKey + 1, -2, -1,
		api.MaxKey, api.MaxKey + 1, 2 * api.MaxKey, 255, 256, 257, 1 << 16, 1 << 32, 1<<32 + 1, math.MaxInt - 1, math.MaxInt,
	}
}

// noVals are numbers that are no values; some would be if they were cut, wrapped round or negated.
func noVals() []int {
	return []int{
		math.MinInt, math.MinInt + 1, math.MinInt + 5, -1<<62 - 1, -1 << 62, -1<<32 - 1, -1 << 32, -1<<32 + 1,
		-api.MaxVal - 1, -api.MaxVal, api.MaxVal, api.MaxVal + 1, 1<<32 - 1, 1 << 32, 1<<32 + 1, 1 << 62,
		math.MaxInt - 1, math.MaxInt,
	}
}

// vals are values: small ones, and those at both ends.
func vals() []int {
	return []int{-top, -top + 1, -1 << 30, -256, -2, -1, 0, 1, 2, 7, 255, 256, 1 << 16, 1 << 30, top - 1, top}
}

// apply checks the result of an operation.
func apply(t *testing.T, s *store.Store, op api.Op, want int) {
	t.Helper()
	if got := s.Apply(op); got != want {
		t.Errorf("Apply(%+v) = %d; want %d", op, got, want)
	}
}

// has checks that the key has the value.
func has(t *testing.T, s *store.Store, key, want int) {
	t.Helper()
	if got, ok := s.Get(key); got != want || !ok {
		t.Errorf("Get(%d) = %d, %v; want %d, true", key, got, ok, want)
	}
}

// none checks that the keys have no values.
func none(t *testing.T, s *store.Store, keys ...int) {
	t.Helper()
	for _, key := range keys {
		if got, ok := s.Get(key); got != 0 || ok {
			t.Errorf("Get(%d) = %d, %v; want 0, false", key, got, ok)
		}
	}
}

// holds checks that a store has just these keys and values, which are ascending, by each of its calls that tells them.
func holds(t *testing.T, s *store.Store, want ...[2]int) {
	t.Helper()
	if got := s.All(); !slices.Equal(got, want) {
		t.Errorf("All() = %v; want %v", got, want)
	}
	if got := s.Len(); got != len(want) {
		t.Errorf("Len() = %d; want %d", got, len(want))
	}
	rest := want
	for key := -1; key <= api.MaxKey; key++ {
		if len(rest) > 0 && rest[0][0] == key {
			has(t, s, key, rest[0][1])
			rest = rest[1:]
		} else {
			none(t, s, key)
		}
	}
}

// same checks what Same returns, either way round.
func same(t *testing.T, s, other *store.Store, want bool) {
	t.Helper()
	if got := s.Same(other); got != want {
		t.Errorf("Same = %v of %v and %v; want %v", got, s.All(), other.All(), want)
	}
	if got := other.Same(s); got != want {
		t.Errorf("Same = %v of %v and %v; want %v", got, other.All(), s.All(), want)
	}
}

// of returns a store with these keys and values.
func of(pairs ...[2]int) *store.Store {
	s := store.New()
	for _, p := range pairs {
		s.Apply(put(p[0], p[1]))
	}
	return s
}

// P10.1: initially no key has a value.
func TestNew(t *testing.T) {
	s := store.New()
	if s == nil {
		t.Fatal("New() = nil")
	}
	holds(t, s)
	none(t, s, noKeys()...)
	apply(t, s, sum(), 0)
	same(t, s, store.New(), true)
}

// P10.1: the chapter's examples.
func TestExamples(t *testing.T) {
	s := store.New()
	apply(t, s, put(1, 5), 0)
	apply(t, s, add(1, 2), 7)
	apply(t, s, sum(), 7)
	apply(t, s, del(1), 7)
}

// P10.1: Put gives any key any value, and tells the one before.
func TestPut(t *testing.T) {
	for key := range api.MaxKey {
		s := store.New()
		before := 0
		for _, val := range vals() {
			apply(t, s, put(key, val), before)
			holds(t, s, [2]int{key, val})
			apply(t, s, put(key, val), val)
			holds(t, s, [2]int{key, val})
			before = val
		}
	}
}

// P10.1: a key with the value 0 has a value; one without counts as 0.
func TestZeroIsAValue(t *testing.T) {
	s := store.New()
	apply(t, s, put(3, 0), 0)
	holds(t, s, [2]int{3, 0})
	apply(t, s, add(4, 0), 0)
	holds(t, s, [2]int{3, 0}, [2]int{4, 0})
	apply(t, s, put(5, 9), 0)
	apply(t, s, add(5, -9), 0)
	holds(t, s, [2]int{3, 0}, [2]int{4, 0}, [2]int{5, 0})
	apply(t, s, get(6), 0)
	apply(t, s, del(7), 0)
	apply(t, s, sum(), 0)
	holds(t, s, [2]int{3, 0}, [2]int{4, 0}, [2]int{5, 0})
	apply(t, s, del(3), 0)
	holds(t, s, [2]int{4, 0}, [2]int{5, 0})
}

// P10.1: the operation Get tells the value, 0 if there is none, and does nothing; its Val does not matter.
func TestGetOperation(t *testing.T) {
	for key := range api.MaxKey {
		s := store.New()
		for _, val := range vals() {
			apply(t, s, api.Op{Kind: api.Get, Key: key, Val: val}, 0)
		}
		holds(t, s)
		for _, val := range vals() {
			s.Apply(put(key, val))
			for _, other := range vals() {
				apply(t, s, api.Op{Kind: api.Get, Key: key, Val: other}, val)
			}
			holds(t, s, [2]int{key, val})
		}
	}
}

// P10.1: Add gives the sum; a sum that is no value does nothing, and the value is told.
func TestAdd(t *testing.T) {
	for _, key := range []int{0, 1, 31, api.MaxKey - 1} {
		for _, val := range vals() {
			s := store.New()
			apply(t, s, add(key, val), val)
			holds(t, s, [2]int{key, val})
			for _, more := range vals() {
				s := of([2]int{key, val})
				want := val + more
				if want >= api.MaxVal || want <= -api.MaxVal {
					want = val
				}
				apply(t, s, add(key, more), want)
				holds(t, s, [2]int{key, want})
			}
		}
	}
}

// P10.1: the greatest and the least sum, and those that are one too far.
func TestAddEnds(t *testing.T) {
	for _, sign := range []int{1, -1} {
		s := of([2]int{2, sign * (top - 1)}, [2]int{3, 4})
		apply(t, s, add(2, sign*2), sign*(top-1))
		apply(t, s, add(2, sign*top), sign*(top-1))
		holds(t, s, [2]int{2, sign * (top - 1)}, [2]int{3, 4})
		apply(t, s, add(2, sign), sign*top)
		apply(t, s, add(2, sign), sign*top)
		apply(t, s, add(2, sign*top), sign*top)
		apply(t, s, add(2, 0), sign*top)
		holds(t, s, [2]int{2, sign * top}, [2]int{3, 4})
		apply(t, s, add(2, -sign*top), 0)
		apply(t, s, add(2, -sign*top), -sign*top)
		holds(t, s, [2]int{2, -sign * top}, [2]int{3, 4})
	}
}

// P10.1: Del takes the value away and tells it; its Val does not matter.
func TestDel(t *testing.T) {
	for key := range api.MaxKey {
		s := store.New()
		apply(t, s, del(key), 0)
		holds(t, s)
		for _, val := range vals() {
			s.Apply(put(key, val))
			apply(t, s, api.Op{Kind: api.Del, Key: key, Val: val / 2}, val)
			holds(t, s)
			apply(t, s, del(key), 0)
			apply(t, s, get(key), 0)
			apply(t, s, sum(), 0)
			apply(t, s, put(key, val), 0)
			apply(t, s, del(key), val)
			apply(t, s, add(key, val), val)
		}
	}
}

// P10.1: Sum is that of all values, and can lie far outside their range; its Key and Val do not matter.
func TestSum(t *testing.T) {
	for _, val := range vals() {
		s := store.New()
		for key := range api.MaxKey {
			apply(t, s, sum(), key*val)
			s.Apply(put(key, val))
		}
		for key := range api.MaxKey {
			for _, other := range vals() {
				apply(t, s, api.Op{Kind: api.Sum, Key: key, Val: other}, api.MaxKey*val)
			}
		}
		if s.Len() != api.MaxKey {
			t.Errorf("Len() = %d; want %d", s.Len(), api.MaxKey)
		}
	}
	s := of([2]int{0, top}, [2]int{9, -top}, [2]int{20, top}, [2]int{63, -5})
	apply(t, s, sum(), top-5)
	holds(t, s, [2]int{0, top}, [2]int{9, -top}, [2]int{20, top}, [2]int{63, -5})
	apply(t, s, del(0), top)
	apply(t, s, sum(), -5)
}

// P10.1: an operation with a key, a value or a kind that is none does nothing, and its result is 0, Sum's too.
func TestOutside(t *testing.T) {
	pairs := [][2]int{{0, 8}, {1, -3}, {5, top}, {63, 1}}
	s := of(pairs...)
	nothing := func(op api.Op) {
		t.Helper()
		apply(t, s, op, 0)
		holds(t, s, pairs...)
		empty := store.New()
		apply(t, empty, op, 0)
		holds(t, empty)
	}
	for _, kind := range kinds() {
		for _, key := range noKeys() {
			for _, val := range []int{-top, -1, 0, 1, top} {
				nothing(api.Op{Kind: kind, Key: key, Val: val})
			}
			for _, val := range noVals() {
				nothing(api.Op{Kind: kind, Key: key, Val: val})
			}
		}
		for _, key := range []int{0, 1, 2, 5, 63} {
			for _, val := range noVals() {
				nothing(api.Op{Kind: kind, Key: key, Val: val})
			}
		}
	}
	for _, kind := range noKinds() {
		for _, key := range []int{-1, 0, 1, 2, 5, 63, 64} {
			for _, val := range []int{-api.MaxVal, -top, -1, 0, 1, top, api.MaxVal} {
				nothing(api.Op{Kind: kind, Key: key, Val: val})
			}
		}
	}
}

// P10.1: each key is by itself.
func TestKeysApart(t *testing.T) {
	s := store.New()
	var want [][2]int
	for key := range api.MaxKey {
		none(t, s, key)
		apply(t, s, put(key, 100+key), 0)
		want = append(want, [2]int{key, 100 + key})
		holds(t, s, want...)
	}
	for key := range api.MaxKey {
		apply(t, s, add(key, 1000), 1100+key)
		want[key][1] = 1100 + key
		holds(t, s, want...)
	}
	for key := range api.MaxKey {
		apply(t, s, del(key), 1100+key)
		holds(t, s, want[key+1:]...)
	}
}

// P10.2: Get tells value and whether there is one; a number that is no key has none.
func TestGet(t *testing.T) {
	s := of([2]int{0, 4}, [2]int{1, 0}, [2]int{62, -top}, [2]int{63, top})
	for range 3 {
		has(t, s, 0, 4)
		has(t, s, 1, 0)
		has(t, s, 62, -top)
		has(t, s, 63, top)
		none(t, s, 2, 32, 61)
		none(t, s, noKeys()...)
	}
	holds(t, s, [2]int{0, 4}, [2]int{1, 0}, [2]int{62, -top}, [2]int{63, top})
}

// P10.2: Len counts the keys that have a value, not the operations.
func TestLen(t *testing.T) {
	s := store.New()
	for _, r := range []struct {
		op   api.Op
		want int
	}{
		{get(1), 0}, {sum(), 0}, {del(1), 0}, {put(1, 5), 1}, {put(1, 6), 1}, {add(1, 1), 1}, {add(2, 0), 2}, {put(0, 0), 3},
		{get(9), 3}, {sum(), 3}, {put(-1, 5), 3}, {put(64, 5), 3}, {put(9, api.MaxVal), 3}, {add(9, -api.MaxVal), 3},
		{del(9), 3}, {del(1), 2}, {del(1), 2}, {del(0), 1}, {del(2), 0}, {put(2, 2), 1},
	} {
		s.Apply(r.op)
		if got := s.Len(); got != r.want {
			t.Errorf("Len() = %d after %+v; want %d", got, r.op, r.want)
		}
	}
}

// P10.2: All is ascending by keys, whichever order they got their values in.
func TestAll(t *testing.T) {
	r := rand.New(rand.NewPCG(10, 2))
	var want [][2]int
	for key := range api.MaxKey {
		want = append(want, [2]int{key, -7 * key})
	}
	for range 30 {
		s := store.New()
		for _, key := range r.Perm(api.MaxKey) {
			s.Apply(put(key, -7*key))
		}
		holds(t, s, want...)
	}
	holds(t, of([2]int{63, 1}, [2]int{0, 2}, [2]int{30, 3}), [2]int{0, 2}, [2]int{30, 3}, [2]int{63, 1})
}

// P10.2: what All returns is the caller's own, and no two answers share memory.
func TestAllIsNewMemory(t *testing.T) {
	pairs := [][2]int{{2, 5}, {7, 1}, {8, 0}}
	s := of(pairs...)
	first, second := s.All(), s.All()
	for i := range first {
		first[i] = [2]int{60, 60}
	}
	_ = append(first[:0], [2]int{50, 50})
	if !slices.Equal(second, pairs) {
		t.Errorf("All() = %v after a change of another answer; want %v", second, pairs)
	}
	holds(t, s, pairs...)

	s.Apply(put(2, 6))
	s.Apply(del(7))
	if !slices.Equal(second, pairs) {
		t.Errorf("All() = %v after operations that came later; want %v", second, pairs)
	}
}

// P10.2: stores are the same if they have the same keys with the same values.
func TestSame(t *testing.T) {
	stores := [][][2]int{
		nil, {{0, 0}}, {{1, 0}}, {{63, 0}}, {{0, 1}}, {{0, -1}}, {{1, 1}}, {{0, 1}, {1, 1}}, {{0, 1}, {1, 0}}, {{0, 0}, {1, 1}},
		{{0, 1}, {2, 1}}, {{1, 1}, {2, 1}}, {{0, 2}, {1, 1}}, {{0, 1}, {1, 2}}, {{0, 1}, {1, 1}, {63, 1}}, {{5, top}}, {{5, -top}},
		{{5, top - 1}}, {{6, top}},
	}
	for i, a := range stores {
		for j, b := range stores {
			one, other := of(a...), of(b...)
			same(t, one, other, i == j)
			holds(t, one, a...)
			holds(t, other, b...)
		}
		s := of(a...)
		same(t, s, s, true)
	}
}

// P10.2: how a store came to its contents does not matter to Same.
func TestSameByAnyWay(t *testing.T) {
	one, other := store.New(), store.New()
	for _, op := range []api.Op{put(4, 9), put(1, 2), del(4), add(1, 3), put(2, 0)} {
		one.Apply(op)
	}
	for _, op := range []api.Op{add(2, 0), get(7), put(1, 5), put(64, 1)} {
		other.Apply(op)
	}
	same(t, one, other, true)
	one.Apply(put(4, 9))
	same(t, one, other, false)
	one.Apply(add(4, -9))
	same(t, one, other, false)
	one.Apply(del(4))
	same(t, one, other, true)
	one.Apply(del(1))
	one.Apply(del(2))
	same(t, one, store.New(), true)
}

// P10.2: a clone has the same contents; from then on each goes its own way.
func TestClone(t *testing.T) {
	pairs := [][2]int{{0, 1}, {4, 0}, {63, -8}}
	s := of(pairs...)
	other := s.Clone()
	if other == s {
		t.Fatal("Clone() returns the same object")
	}
	same(t, s, other, true)
	holds(t, other, pairs...)

	apply(t, s, put(0, 2), 1)
	apply(t, s, del(4), 0)
	apply(t, s, add(5, 3), 3)
	holds(t, other, pairs...)
	apply(t, other, sum(), -7)
	same(t, s, other, false)

	apply(t, other, add(63, -1), -9)
	apply(t, other, put(4, 4), 0)
	apply(t, other, del(0), 1)
	holds(t, s, [2]int{0, 2}, [2]int{5, 3}, [2]int{63, -8})
	holds(t, other, [2]int{4, 4}, [2]int{63, -9})
}

// P10.2: clones of a new store, and of clones.
func TestCloneOfNewAndOfClone(t *testing.T) {
	s := store.New()
	one := s.Clone()
	same(t, s, one, true)
	apply(t, one, put(1, 1), 0)
	two := one.Clone()
	apply(t, two, add(1, 1), 2)
	apply(t, s, put(2, 7), 0)
	holds(t, s, [2]int{2, 7})
	holds(t, one, [2]int{1, 1})
	holds(t, two, [2]int{1, 2})
}

// P10.2: two stores have nothing in common.
func TestStoresApart(t *testing.T) {
	s, other := store.New(), store.New()
	apply(t, s, put(1, 5), 0)
	holds(t, other)
	apply(t, other, get(1), 0)
	apply(t, other, put(1, 6), 0)
	holds(t, s, [2]int{1, 5})
}

// A model is a list of pairs, ascending by keys.
type model [][2]int

// at returns the place of the key, and whether it has a value.
func (m model) at(key int) (int, bool) {
	return slices.BinarySearchFunc(m, key, func(p [2]int, key int) int { return p[0] - key })
}

func (m model) set(key, val int) model {
	i, ok := m.at(key)
	if ok {
		m = slices.Delete(m, i, i+1)
	}
	return slices.Insert(m, i, [2]int{key, val})
}

// apply returns the model after the operation, and the result.
func (m model) apply(op api.Op) (model, int) {
	far := op.Val / api.MaxVal
	if far != 0 || op.Key/api.MaxKey != 0 || op.Key < 0 {
		return m, 0
	}
	i, ok := m.at(op.Key)
	val := 0
	if ok {
		val = m[i][1]
	}
	switch {
	case op.Kind == api.Put:
		return m.set(op.Key, op.Val), val
	case op.Kind == api.Get:
		return m, val
	case op.Kind == api.Add && (val+op.Val)/api.MaxVal == 0:
		return m.set(op.Key, val+op.Val), val + op.Val
	case op.Kind == api.Add:
		return m, val
	case op.Kind == api.Del && ok:
		return slices.Delete(m, i, i+1), val
	case op.Kind == api.Sum:
		all := 0
		for _, p := range m {
			all += p[1]
		}
		return m, all
	}
	return m, 0
}

// anyOp returns an operation, now and then one that is out of its ranges.
func anyOp(r *rand.Rand) api.Op {
	op := api.Op{Kind: kinds()[r.IntN(5)], Key: r.IntN(6), Val: vals()[r.IntN(len(vals()))]}
	switch r.IntN(24) {
	case 0:
		op.Kind = noKinds()[r.IntN(len(noKinds()))]
	case 1:
		op.Key = noKeys()[r.IntN(len(noKeys()))]
	case 2:
		op.Val = noVals()[r.IntN(len(noVals()))]
	case 3, 4, 5:
		op.Key = r.IntN(api.MaxKey)
	case 6, 7, 8:
		op.Val = r.IntN(2*api.MaxVal-1) - top
	}
	return op
}

// P10.1, P10.2: any operations, on a store and on clones of it, answer as the model.
func TestAnyCalls(t *testing.T) {
	r := rand.New(rand.NewPCG(10, 1))
	for range 40 {
		stores, models := []*store.Store{store.New()}, []model{nil}
		for range 200 {
			i := r.IntN(len(stores))
			op := anyOp(r)
			var want int
			models[i], want = models[i].apply(op)
			apply(t, stores[i], op, want)
			if r.IntN(50) == 0 {
				stores = append(stores, stores[i].Clone())
				models = append(models, slices.Clone(models[i]))
			}
			for j, s := range stores {
				holds(t, s, models[j]...)
				same(t, s, stores[i], slices.Equal(models[j], models[i]))
			}
		}
	}
}

// P10.1, P10.2: the same operations leave the same store and have the same results, each time.
func TestSameOperationsSameResults(t *testing.T) {
	for seed := range uint64(20) {
		one, other := store.New(), store.New()
		r, again := rand.New(rand.NewPCG(10, seed)), rand.New(rand.NewPCG(10, seed))
		for range 300 {
			apply(t, other, anyOp(again), one.Apply(anyOp(r)))
		}
		same(t, one, other, true)
	}
}
