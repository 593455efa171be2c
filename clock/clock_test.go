package clock_test

import (
	"maps"
	"math"
	"math/rand/v2"
	"slices"
	"testing"

	"psephos/api"
	"psephos/clock"
)

// ids are numbers of all sorts, and some that are alike in their low bits; ascending.
func ids() []int {
	return []int{
		math.MinInt, math.MinInt + 1, -1<<32 + 1, -256, -2, -1, 0, 1, 2, 12, 99, 100, 255, 256, 257, 1 << 16, 1<<16 + 1,
		1 << 32, 1<<32 + 1, math.MaxInt - 1, math.MaxInt,
	}
}

// outside are numbers of ticks that no timer is set to; some would be taken if they were cut or wrapped round.
func outside() []int {
	return []int{
		math.MinInt, math.MinInt + 1, -1 << 32, -1<<32 + 1, -api.MaxClock - 1, -api.MaxClock, -255, -2, -1, 0,
		api.MaxClock + 1, api.MaxClock + 2, 2 * api.MaxClock, 1 << 32, 1<<32 + 1, math.MaxInt - 1, math.MaxInt,
	}
}

// tick lets the clock pass so many ticks.
func tick(t *testing.T, c *clock.Clock, ticks int) {
	t.Helper()
	for range ticks {
		if !c.Tick() {
			t.Fatalf("Tick() = false at %d; want true", c.Now())
		}
	}
}

// now checks what Now returns.
func now(t *testing.T, c *clock.Clock, want int) {
	t.Helper()
	if got := c.Now(); got != want {
		t.Errorf("Now() = %d; want %d", got, want)
	}
}

// set checks that the timer can be set.
func set(t *testing.T, c *clock.Clock, id, ticks int) {
	t.Helper()
	if !c.Set(id, ticks) {
		t.Errorf("Set(%d, %d) = false; want true", id, ticks)
	}
}

// notSet checks that the timer can't be set.
func notSet(t *testing.T, c *clock.Clock, id, ticks int) {
	t.Helper()
	if c.Set(id, ticks) {
		t.Errorf("Set(%d, %d) = true; want false", id, ticks)
	}
}

// drop checks what Drop returns.
func drop(t *testing.T, c *clock.Clock, id int, want bool) {
	t.Helper()
	if got := c.Drop(id); got != want {
		t.Errorf("Drop(%d) = %v; want %v", id, got, want)
	}
}

// left checks that there is the timer, and how much is left of it.
func left(t *testing.T, c *clock.Clock, id, want int) {
	t.Helper()
	if got, ok := c.Left(id); got != want || !ok {
		t.Errorf("Left(%d) = %d, %v at %d; want %d, true", id, got, ok, c.Now(), want)
	}
}

// none checks that there are no such timers.
func none(t *testing.T, c *clock.Clock, ids ...int) {
	t.Helper()
	for _, id := range ids {
		if got, ok := c.Left(id); got != 0 || ok {
			t.Errorf("Left(%d) = %d, %v at %d; want 0, false", id, got, ok, c.Now())
		}
	}
}

// due checks what Due returns.
func due(t *testing.T, c *clock.Clock, want ...int) {
	t.Helper()
	if got := c.Due(); !slices.Equal(got, want) {
		t.Errorf("Due() = %v at %d; want %v", got, c.Now(), want)
	}
}

// atEnd returns a clock at so many ticks before MaxClock.
func atEnd(t *testing.T, before int) *clock.Clock {
	t.Helper()
	c := clock.New()
	tick(t, c, api.MaxClock-before)
	return c
}

// P9.1: a new clock is at 0 and has no timers.
func TestNew(t *testing.T) {
	c := clock.New()
	if c == nil {
		t.Fatal("New() = nil")
	}
	now(t, c, 0)
	none(t, c, ids()...)
	due(t, c)
	for _, id := range ids() {
		drop(t, c, id, false)
	}
}

// P9.1: the chapter's example.
func TestExample(t *testing.T) {
	c := clock.New()
	set(t, c, 5, 2)
	tick(t, c, 2)
	due(t, c, 5)
}

// P9.1: each tick is one more, up to MaxClock, where the clock stays.
func TestTick(t *testing.T) {
	c := clock.New()
	for n := range api.MaxClock {
		now(t, c, n)
		tick(t, c, 1)
	}
	for range 5 {
		now(t, c, api.MaxClock)
		if c.Tick() {
			t.Error("Tick() = true at MaxClock; want false")
		}
	}
	now(t, c, api.MaxClock)
}

// P9.1: nothing but Tick lets ticks pass.
func TestOnlyTickTicks(t *testing.T) {
	c := clock.New()
	tick(t, c, 3)
	set(t, c, 1, 1)
	notSet(t, c, 1, 0)
	left(t, c, 1, 1)
	due(t, c)
	c.Clone()
	drop(t, c, 1, true)
	drop(t, c, 1, false)
	now(t, c, 3)
}

// P9.1: a timer is due after its ticks, not one earlier, wherever the clock was when it was set.
func TestSet(t *testing.T) {
	c := clock.New()
	for ticks := 1; ticks <= 70; ticks++ {
		set(t, c, 8, ticks)
		for gone := range ticks {
			left(t, c, 8, ticks-gone)
			due(t, c)
			tick(t, c, 1)
		}
		left(t, c, 8, 0)
		due(t, c, 8)
		none(t, c, 8)
		due(t, c)
	}
}

// P9.1: the least and the greatest number of ticks.
func TestSetEnds(t *testing.T) {
	c := clock.New()
	set(t, c, 1, 1)
	set(t, c, 2, api.MaxClock-1)
	set(t, c, 3, api.MaxClock)
	left(t, c, 3, api.MaxClock)
	tick(t, c, 1)
	due(t, c, 1)
	tick(t, c, api.MaxClock-3)
	due(t, c)
	left(t, c, 2, 1)
	left(t, c, 3, 2)
	tick(t, c, 1)
	due(t, c, 2)
	left(t, c, 3, 1)
	tick(t, c, 1)
	left(t, c, 3, 0)
	due(t, c, 3)
}

// P9.1: other numbers of ticks set no timer, and leave the one that there is.
func TestSetOutside(t *testing.T) {
	for _, at := range []int{0, 7} {
		for _, ticks := range outside() {
			c := clock.New()
			tick(t, c, at)
			notSet(t, c, 4, ticks)
			none(t, c, 4)
			drop(t, c, 4, false)
			due(t, c)

			set(t, c, 4, 3)
			notSet(t, c, 4, ticks)
			left(t, c, 4, 3)
			tick(t, c, 3)
			notSet(t, c, 4, ticks)
			left(t, c, 4, 0)
			now(t, c, at+3)
			due(t, c, 4)
			notSet(t, c, 4, ticks)
			none(t, c, 4)
		}
	}
}

// P9.1: a timer that is set again counts from then on, to an earlier tick or a later one.
func TestSetAgain(t *testing.T) {
	c := clock.New()
	set(t, c, 1, 2)
	set(t, c, 2, 9)
	set(t, c, 3, 4)
	tick(t, c, 1)
	set(t, c, 1, 5)
	set(t, c, 2, 2)
	set(t, c, 3, 4)
	left(t, c, 1, 5)
	left(t, c, 2, 2)
	left(t, c, 3, 4)
	tick(t, c, 1)
	due(t, c)
	tick(t, c, 1)
	due(t, c, 2)
	tick(t, c, 1)
	due(t, c)
	tick(t, c, 1)
	due(t, c, 3)
	tick(t, c, 1)
	due(t, c, 1)
	tick(t, c, 20)
	due(t, c)
}

// P9.1: a timer that is set again when it is due, or was, is due no more until its new ticks have passed.
func TestSetAgainWhenDue(t *testing.T) {
	c := clock.New()
	set(t, c, 1, 1)
	tick(t, c, 4)
	left(t, c, 1, 0)
	set(t, c, 1, 2)
	left(t, c, 1, 2)
	due(t, c)
	tick(t, c, 2)
	due(t, c, 1)
	set(t, c, 1, 1)
	due(t, c)
	tick(t, c, 1)
	due(t, c, 1)
	due(t, c)
}

// P9.1: a timer that was removed is there no more, due or not, and can be set anew.
func TestDrop(t *testing.T) {
	c := clock.New()
	for _, gone := range []int{0, 1, 2, 3, 4, 9} {
		set(t, c, 6, 3)
		set(t, c, 7, 3)
		tick(t, c, gone)
		drop(t, c, 5, false)
		drop(t, c, 6, true)
		none(t, c, 6)
		drop(t, c, 6, false)
		left(t, c, 7, max(3-gone, 0))
		tick(t, c, 3)
		due(t, c, 7)
		drop(t, c, 7, false)
	}
	set(t, c, 6, 2)
	left(t, c, 6, 2)
}

// P9.1: a timer stays due until it is removed, and asking what is left doesn't.
func TestStaysDue(t *testing.T) {
	c := clock.New()
	set(t, c, 2, 2)
	for want := 2; want > 0; want-- {
		left(t, c, 2, want)
		left(t, c, 2, want)
		tick(t, c, 1)
	}
	for range 50 {
		left(t, c, 2, 0)
		tick(t, c, 1)
	}
	due(t, c, 2)
	none(t, c, 2)
}

// P9.1: Due returns all that are due, whenever they became so, ascending by id, and leaves the others.
func TestDue(t *testing.T) {
	all := ids()
	for _, step := range []int{1, -1} {
		c := clock.New()
		for i := range all {
			at := i
			if step < 0 {
				at = len(all) - 1 - i
			}
			set(t, c, all[at], 1+at%4)
		}
		tick(t, c, 3)
		var want, rest []int
		for i, id := range all {
			if i%4 < 3 {
				want = append(want, id)
				left(t, c, id, 0)
			} else {
				rest = append(rest, id)
				left(t, c, id, 1)
			}
		}
		due(t, c, want...)
		none(t, c, want...)
		due(t, c)
		tick(t, c, 1)
		due(t, c, rest...)
		none(t, c, rest...)
		due(t, c)
	}
}

// P9.1: many timers are told in one order, whichever they were set in.
func TestDueOfMany(t *testing.T) {
	r := rand.New(rand.NewPCG(9, 2))
	for range 20 {
		c := clock.New()
		var want []int
		for _, id := range r.Perm(500) {
			set(t, c, id-250, 1+r.IntN(5))
		}
		for id := range 500 {
			want = append(want, id-250)
		}
		tick(t, c, 5)
		due(t, c, want...)
	}
}

// P9.1: what Due returns is the caller's own.
func TestDueIsNewMemory(t *testing.T) {
	c := clock.New()
	fill := func() {
		for id := range 5 {
			set(t, c, id, 1)
		}
		tick(t, c, 1)
	}
	fill()
	first := c.Due()
	fill()
	second := c.Due()
	for i := range first {
		first[i] = -1
	}
	if want := []int{0, 1, 2, 3, 4}; !slices.Equal(second, want) {
		t.Errorf("Due() = %v after a change of an earlier answer; want %v", second, want)
	}
	fill()
	due(t, c, 0, 1, 2, 3, 4)
}

// P9.1: each timer, whatever its id, is by itself.
func TestTimersApart(t *testing.T) {
	c := clock.New()
	all := ids()
	for i, id := range all {
		none(t, c, id)
		set(t, c, id, 10+i)
	}
	for i, id := range all {
		left(t, c, id, 10+i)
	}
	for i, id := range all {
		if i%2 == 0 {
			drop(t, c, id, true)
		} else {
			set(t, c, id, 100+i)
		}
	}
	for i, id := range all {
		if i%2 == 0 {
			none(t, c, id)
		} else {
			left(t, c, id, 100+i)
		}
	}
}

// P9.1: a timer can be set to a tick that the clock never gets to; it is then never due.
func TestTimersBeyondMaxClock(t *testing.T) {
	c := atEnd(t, 3)
	set(t, c, 1, 3)
	set(t, c, 2, 4)
	set(t, c, 3, api.MaxClock)
	tick(t, c, 2)
	due(t, c)
	tick(t, c, 1)
	for range 5 {
		left(t, c, 1, 0)
		left(t, c, 2, 1)
		left(t, c, 3, api.MaxClock-3)
		if c.Tick() {
			t.Error("Tick() = true at MaxClock; want false")
		}
	}
	due(t, c, 1)
	due(t, c)
	left(t, c, 2, 1)
	drop(t, c, 2, true)
	none(t, c, 2)

	set(t, c, 4, 1)
	left(t, c, 4, 1)
	set(t, c, 3, api.MaxClock)
	left(t, c, 3, api.MaxClock)
	for _, ticks := range outside() {
		notSet(t, c, 5, ticks)
	}
	c.Tick()
	due(t, c)
	left(t, c, 4, 1)
	now(t, c, api.MaxClock)
}

// P9.1: a clone is at the same tick and has the same timers; from then on each goes its own way.
func TestClone(t *testing.T) {
	c := clock.New()
	tick(t, c, 4)
	set(t, c, 1, 2)
	set(t, c, 2, 3)
	set(t, c, 3, 1)
	tick(t, c, 1)
	other := c.Clone()
	if other == c {
		t.Fatal("Clone() returns the same object")
	}
	for _, same := range []*clock.Clock{c, other} {
		now(t, same, 5)
		left(t, same, 1, 1)
		left(t, same, 2, 2)
		left(t, same, 3, 0)
		none(t, same, 4)
	}

	tick(t, c, 2)
	set(t, c, 4, 6)
	drop(t, c, 1, true)
	due(t, c, 2, 3)
	now(t, other, 5)
	left(t, other, 1, 1)
	left(t, other, 2, 2)
	none(t, other, 4)
	due(t, other, 3)

	set(t, other, 2, 50)
	set(t, other, 5, 1)
	tick(t, other, 1)
	due(t, other, 1, 5)
	now(t, c, 7)
	none(t, c, 1, 2, 3, 5)
	left(t, c, 4, 6)
}

// P9.1: clones of a new clock, of clones, and of a clock at its end.
func TestCloneOfNewAndOfClone(t *testing.T) {
	c := clock.New()
	one := c.Clone()
	two := one.Clone()
	set(t, two, 7, 2)
	three := two.Clone()
	tick(t, three, 2)
	due(t, three, 7)
	none(t, c, 7)
	none(t, one, 7)
	left(t, two, 7, 2)
	set(t, one, 7, 1)
	none(t, c, 7)
	left(t, one, 7, 1)

	end := atEnd(t, 0).Clone()
	now(t, end, api.MaxClock)
	if end.Tick() {
		t.Error("Tick() = true at MaxClock; want false")
	}
}

// P9.1: two clocks have nothing in common.
func TestClocksApart(t *testing.T) {
	c, other := clock.New(), clock.New()
	set(t, c, 1, 1)
	tick(t, c, 1)
	now(t, other, 0)
	none(t, other, 1)
	due(t, other)
	drop(t, other, 1, false)
	due(t, c, 1)
}

// A model keeps for each timer how many ticks are left, and takes one from each at every tick.
type model struct {
	now  int
	left map[int]int
}

func (m *model) tick() bool {
	if m.now >= api.MaxClock {
		return false
	}
	m.now++
	for id := range m.left {
		if m.left[id] > 0 {
			m.left[id]--
		}
	}
	return true
}

func (m *model) due() []int {
	var l []int
	for id, n := range m.left {
		if n == 0 {
			l = append(l, id)
		}
	}
	maps.DeleteFunc(m.left, func(_, n int) bool { return n == 0 })
	slices.Sort(l)
	return l
}

// agree checks that a clock tells what its model does.
func agree(t *testing.T, c *clock.Clock, m *model) {
	t.Helper()
	now(t, c, m.now)
	for id := -1; id < 7; id++ {
		if n, ok := m.left[id]; ok {
			left(t, c, id, n)
		} else {
			none(t, c, id)
		}
	}
}

// step makes one call on a clock and on its model.
func step(t *testing.T, r *rand.Rand, c *clock.Clock, m *model) {
	t.Helper()
	id, ticks := r.IntN(8)-1, 1+r.IntN(6)
	switch r.IntN(8) {
	case 0, 1, 2:
		if got, want := c.Tick(), m.tick(); got != want {
			t.Errorf("Tick() = %v at %d; want %v", got, m.now, want)
		}
	case 3, 4:
		set(t, c, id, ticks)
		m.left[id] = ticks
	case 5:
		notSet(t, c, id, outside()[r.IntN(len(outside()))])
	case 6:
		_, want := m.left[id]
		drop(t, c, id, want)
		delete(m.left, id)
	case 7:
		due(t, c, m.due()...)
	}
}

// P9.1: any calls, on a clock and on clones of it, at the beginning and at the end, answer as the model.
func TestAnyCalls(t *testing.T) {
	r := rand.New(rand.NewPCG(9, 1))
	for round := range 60 {
		c, m := clock.New(), &model{left: map[int]int{}}
		if round%4 == 0 {
			c, m.now = atEnd(t, 30), api.MaxClock-30
		}
		clocks, models := []*clock.Clock{c}, []*model{m}
		for range 200 {
			i := r.IntN(len(clocks))
			step(t, r, clocks[i], models[i])
			if r.IntN(60) == 0 {
				clocks = append(clocks, clocks[i].Clone())
				models = append(models, &model{models[i].now, maps.Clone(models[i].left)})
			}
			for j, c := range clocks {
				agree(t, c, models[j])
			}
		}
	}
}
