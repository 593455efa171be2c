package flood_test

import (
	"math"
	"math/rand/v2"
	"testing"

	"psephos/api"
	"psephos/flood"
)

// utmost is the greatest number that New takes.
const utmost = 64

// far are numbers far from those that New takes, and would be among them if they were cut or wrapped round.
func far() []int {
	return []int{
		math.MinInt, math.MinInt + 1, -1 << 32, -1<<32 + 1, -1<<16 + 1, -255, -64, -2, -1,
		66, 127, 128, 129, 256, 257, 1<<16 + 1, 1 << 32, 1<<32 + 1, math.MaxInt - 1, math.MaxInt,
	}
}

// parties are numbers of all sorts: nodes, clients, none of both, and some that are alike in their low bits.
func parties() []int {
	return []int{
		math.MinInt, math.MinInt + 1, -1<<32 + 1, -256, -100, -13, -1, 0, 1, 2, 12, 13, 99, api.FirstClient, 101, 103,
		104, 255, 256, 257, 1 << 16, 1<<16 + 1, 1 << 32, 1<<32 + 1, math.MaxInt - 1, math.MaxInt,
	}
}

// made returns a new guard that could be made.
func made(t *testing.T, most, ticks int) *flood.Guard {
	t.Helper()
	g, err := flood.New(most, ticks)
	if g == nil || err != api.OK {
		t.Fatalf("New(%d, %d) = %v, %d; want a guard, %d", most, ticks, g, err, api.OK)
	}
	return g
}

// bad checks what Bad returns.
func bad(t *testing.T, g *flood.Guard, party, clock int, want bool) {
	t.Helper()
	if got := g.Bad(party, clock); got != want {
		t.Errorf("Bad(%d, %d) = %v; want %v", party, clock, got, want)
	}
}

// counts checks what Count returns.
func counts(t *testing.T, g *flood.Guard, party, want int) {
	t.Helper()
	if got := g.Count(party); got != want {
		t.Errorf("Count(%d) = %d; want %d", party, got, want)
	}
}

// open checks that the party is not shut out at any of these clocks.
func open(t *testing.T, g *flood.Guard, party int, clocks ...int) {
	t.Helper()
	for _, clock := range clocks {
		if g.Shut(party, clock) {
			t.Errorf("Shut(%d, %d) = true; want false", party, clock)
		}
	}
}

// shut checks that the party is shut out at all of these clocks.
func shut(t *testing.T, g *flood.Guard, party int, clocks ...int) {
	t.Helper()
	for _, clock := range clocks {
		if !g.Shut(party, clock) {
			t.Errorf("Shut(%d, %d) = false; want true", party, clock)
		}
	}
}

// shutUntil checks that the party is shut out at each clock before this time, and at none from it on.
func shutUntil(t *testing.T, g *flood.Guard, party, time int) {
	t.Helper()
	for clock := max(0, time-70); clock < time && clock <= api.MaxClock; clock++ {
		shut(t, g, party, clock)
	}
	for clock := time; clock <= min(time+70, api.MaxClock); clock++ {
		open(t, g, party, clock)
	}
	if time > 0 {
		shut(t, g, party, 0, -1, math.MinInt)
	}
	if time <= api.MaxClock {
		open(t, g, party, api.MaxClock, api.MaxClock+1, math.MaxInt)
	}
}

// fresh checks that nothing is known of the party.
func fresh(t *testing.T, g *flood.Guard, party int) {
	t.Helper()
	counts(t, g, party, 0)
	open(t, g, party, math.MinInt, -1, 0, 1, 64, api.MaxClock-1, api.MaxClock, api.MaxClock+1, math.MaxInt)
}

// P8.1: each pair of numbers from 1 to 64 makes a guard, which counts to the one and shuts out for the other.
func TestNew(t *testing.T) {
	for most := 1; most <= utmost; most++ {
		for ticks := 1; ticks <= utmost; ticks++ {
			g := made(t, most, ticks)
			for n := range most {
				counts(t, g, 3, n)
				bad(t, g, 3, 100, false)
				open(t, g, 3, 0, 99, 100, 101)
			}
			counts(t, g, 3, most)
			bad(t, g, 3, 100, true)
			counts(t, g, 3, 0)
			shut(t, g, 3, 0, 99, 100, 100+ticks-1)
			open(t, g, 3, 100+ticks, 100+ticks+1, 200)
		}
	}
}

// P8.1: no guard, if one of the numbers or both are not from 1 to 64.
func TestNewOutside(t *testing.T) {
	none := func(most, ticks int) {
		if g, err := flood.New(most, ticks); g != nil || err != api.ErrArg {
			t.Errorf("New(%d, %d) = %v, %d; want nil, %d", most, ticks, g, err, api.ErrArg)
		}
	}
	outside := append(far(), 0, utmost+1)
	for _, n := range outside {
		for _, inside := range []int{1, 2, 32, utmost} {
			none(n, inside)
			none(inside, n)
		}
		for _, other := range outside {
			none(n, other)
		}
	}
}

// P8.1: a new guard knows of no party.
func TestNewKnowsNobody(t *testing.T) {
	g := made(t, 1, utmost)
	for _, party := range parties() {
		fresh(t, g, party)
	}
}

// P8.1: the chapter's example.
func TestExample(t *testing.T) {
	g := made(t, 1, 5)
	bad(t, g, 2, 3, false)
	bad(t, g, 2, 3, true)
	shut(t, g, 2, 7)
	open(t, g, 2, 8)
	shutUntil(t, g, 2, 8)
}

// P8.1: after a party was shut out, its count begins anew, while it is still shut out and afterwards.
func TestCountBeginsAnew(t *testing.T) {
	g := made(t, 2, 10)
	for _, clock := range []int{0, 1, 5, 14, 15, 16, 500} {
		bad(t, g, 1, clock, false)
		counts(t, g, 1, 1)
		bad(t, g, 1, clock, false)
		counts(t, g, 1, 2)
		bad(t, g, 1, clock, true)
		counts(t, g, 1, 0)
		shutUntil(t, g, 1, clock+10)
	}
}

// P8.1: no time passes the count by: bad messages count together however far they are apart, and whichever comes first.
func TestCountStays(t *testing.T) {
	g := made(t, 3, 4)
	bad(t, g, 1, 900, false)
	bad(t, g, 1, 0, false)
	bad(t, g, 1, api.MaxClock, false)
	counts(t, g, 1, 3)
	open(t, g, 1, 0, 900, api.MaxClock)
	bad(t, g, 1, 50, true)
	counts(t, g, 1, 0)
	shutUntil(t, g, 1, 54)
}

// P8.1: a bad message that is tolerated leaves the time as it is, also after the party was shut out and while it is.
func TestToleratedLeavesTime(t *testing.T) {
	g := made(t, 2, 5)
	bad(t, g, 1, 10, false)
	bad(t, g, 1, 10, false)
	bad(t, g, 1, 10, true)
	bad(t, g, 1, 12, false)
	shutUntil(t, g, 1, 15)
	bad(t, g, 1, 40, false)
	shutUntil(t, g, 1, 15)
	counts(t, g, 1, 2)
}

// P8.1: the newest time counts in place of the one before, later or earlier.
func TestNewestTime(t *testing.T) {
	g := made(t, 1, 20)
	for _, clock := range []int{100, 110, 105, 200, 0, api.MaxClock, 3, 3, 2} {
		bad(t, g, 1, clock, false)
		bad(t, g, 1, clock, true)
		shutUntil(t, g, 1, clock+20)
	}
}

// P8.1: the clock of the message that is one too many counts, not that of any before.
func TestLastClockCounts(t *testing.T) {
	g := made(t, 2, 7)
	bad(t, g, 1, 30, false)
	bad(t, g, 1, 90, false)
	bad(t, g, 1, 60, true)
	shutUntil(t, g, 1, 67)
}

// P8.1: Shut and Count look only; asking changes nothing, however often and at whichever clock.
func TestAskingChangesNothing(t *testing.T) {
	g := made(t, 1, 5)
	bad(t, g, 1, 10, false)
	bad(t, g, 1, 10, true)
	bad(t, g, 1, 10, false)
	for range 3 {
		open(t, g, 1, 15, 1000, math.MaxInt)
		shut(t, g, 1, 14, 0, math.MinInt)
		counts(t, g, 1, 1)
		fresh(t, g, 2)
	}
	bad(t, g, 1, 11, true)
	shutUntil(t, g, 1, 16)
}

// P8.1: numbers that are no clocks count as 0 or as MaxClock, in Bad and in Shut.
func TestNearestClock(t *testing.T) {
	for _, clock := range []int{math.MinInt, math.MinInt + 1, -1 << 32, -1 << 20, -65, -64, -3, -2, -1, 0} {
		for _, ticks := range []int{1, 2, 3, utmost} {
			g := made(t, 1, ticks)
			bad(t, g, 1, clock, false)
			bad(t, g, 1, clock, true)
			shutUntil(t, g, 1, ticks)
			shut(t, g, 1, clock)
		}
	}
	for _, clock := range []int{api.MaxClock, api.MaxClock + 1, api.MaxClock + 64, 1 << 32, math.MaxInt - 1, math.MaxInt} {
		for _, ticks := range []int{1, 2, 3, utmost} {
			g := made(t, 1, ticks)
			bad(t, g, 1, clock, false)
			bad(t, g, 1, clock, true)
			shut(t, g, 1, 0, api.MaxClock-1, api.MaxClock, api.MaxClock+1, api.MaxClock+ticks, clock, math.MaxInt)
		}
	}
}

// P8.1: near the last clock the time is clock + ticks all the same: a party is open again only if a clock gets there.
func TestTimeNearMaxClock(t *testing.T) {
	for _, ticks := range []int{1, 2, 5, utmost} {
		for before := range ticks + 3 {
			g := made(t, 1, ticks)
			clock := api.MaxClock - before
			bad(t, g, 1, clock, false)
			bad(t, g, 1, clock, true)
			for at := clock; at <= api.MaxClock; at++ {
				if at < clock+ticks {
					shut(t, g, 1, at)
				} else {
					open(t, g, 1, at)
				}
			}
			if before < ticks {
				shut(t, g, 1, api.MaxClock+1, math.MaxInt)
			} else {
				open(t, g, 1, api.MaxClock+1, math.MaxInt)
			}
		}
	}
}

// P8.1: each party, whatever its number, is counted and shut out for itself.
func TestPartiesApart(t *testing.T) {
	g := made(t, 2, 6)
	all := parties()
	for i, party := range all {
		fresh(t, g, party)
		for range i % 3 {
			bad(t, g, party, i, false)
		}
	}
	for i, party := range all {
		counts(t, g, party, i%3)
		open(t, g, party, 0, i, i+6)
	}
	for i, party := range all {
		for n := i % 3; n < 2; n++ {
			bad(t, g, party, 5, false)
		}
		open(t, g, party, 0)
		bad(t, g, party, 100*i, true)
		counts(t, g, party, 0)
	}
	for i, party := range all {
		counts(t, g, party, 0)
		shut(t, g, party, 0, 100*i, 100*i+5)
		open(t, g, party, 100*i+6, 100*i+7)
	}
	fresh(t, g, 77)
}

// P8.1: a clone has the same numbers, counts and times; from then on each goes its own way.
func TestClone(t *testing.T) {
	g := made(t, 2, 9)
	for _, want := range []bool{false, false, true, false} {
		bad(t, g, 1, 10, want)
	}
	bad(t, g, 2, 10, false)
	other := g.Clone()
	if other == g {
		t.Fatal("Clone() returns the same object")
	}
	for _, same := range []*flood.Guard{g, other} {
		counts(t, same, 1, 1)
		shutUntil(t, same, 1, 19)
		counts(t, same, 2, 1)
		open(t, same, 2, 0)
		fresh(t, same, 3)
	}

	bad(t, g, 1, 30, false)
	bad(t, g, 1, 30, true)
	bad(t, g, 3, 30, false)
	counts(t, other, 1, 1)
	shutUntil(t, other, 1, 19)
	fresh(t, other, 3)

	bad(t, other, 2, 40, false)
	bad(t, other, 2, 40, true)
	bad(t, other, 4, 40, false)
	shutUntil(t, other, 2, 49)
	counts(t, g, 2, 1)
	open(t, g, 2, 0, 40)
	fresh(t, g, 4)
	counts(t, g, 1, 0)
	shutUntil(t, g, 1, 39)
}

// P8.1: clones of a guard that knows nobody, and of clones.
func TestCloneOfNewAndOfClone(t *testing.T) {
	g := made(t, 1, 3)
	one := g.Clone()
	two := one.Clone()
	bad(t, two, 5, 8, false)
	three := two.Clone()
	bad(t, three, 5, 8, true)
	fresh(t, g, 5)
	fresh(t, one, 5)
	counts(t, two, 5, 1)
	open(t, two, 5, 8)
	shutUntil(t, three, 5, 11)
	bad(t, g, 5, 1, false)
	bad(t, g, 5, 1, true)
	shutUntil(t, g, 5, 4)
	fresh(t, one, 5)
}

// P8.1: two guards have nothing in common.
func TestGuardsApart(t *testing.T) {
	g, other := made(t, 1, 3), made(t, 1, 3)
	bad(t, g, 1, 0, false)
	bad(t, g, 1, 0, true)
	bad(t, g, 2, 0, false)
	fresh(t, other, 1)
	fresh(t, other, 2)
}

// A model keeps all that was bad, in order, and finds out the rest anew each time.
type model struct {
	most, ticks int
	told        []deed
}

type deed struct{ party, clock int }

func (m model) state(party int) (count, until int) {
	for _, d := range m.told {
		if d.party != party {
			continue
		}
		if count++; count == m.most+1 {
			count, until = 0, within(d.clock)+m.ticks
		}
	}
	return count, until
}

func within(clock int) int {
	switch {
	case clock < 0:
		return 0
	case clock > api.MaxClock:
		return api.MaxClock
	}
	return clock
}

// someClock returns a clock among few, or about one of the ends, or beyond.
func someClock(r *rand.Rand) int {
	switch r.IntN(8) {
	case 0:
		return r.IntN(9) - 6
	case 1:
		return api.MaxClock - 6 + r.IntN(9)
	case 2:
		return int(r.Uint64())
	}
	return r.IntN(20)
}

// agree checks that a guard tells of some parties what its model does.
func agree(t *testing.T, r *rand.Rand, g *flood.Guard, m model) {
	t.Helper()
	for party := -1; party < 5; party++ {
		count, until := m.state(party)
		counts(t, g, party, count)
		for _, clock := range []int{until - 1, until, someClock(r)} {
			if within(clock) < until {
				shut(t, g, party, clock)
			} else {
				open(t, g, party, clock)
			}
		}
	}
}

// P8.1: any calls, on a guard and on clones of it, answer as the model.
func TestAnyCalls(t *testing.T) {
	r := rand.New(rand.NewPCG(8, 1))
	for range 60 {
		m := model{most: 1 + r.IntN(3), ticks: 1 + r.IntN(12)}
		guards, models := []*flood.Guard{made(t, m.most, m.ticks)}, []model{m}
		for range 100 {
			i := r.IntN(len(guards))
			party, clock := r.IntN(6)-1, someClock(r)
			count, _ := models[i].state(party)
			bad(t, guards[i], party, clock, count == m.most)
			// A list of its own for each, since two models may have gone on from one.
			models[i].told = append(append([]deed(nil), models[i].told...), deed{party, clock})
			if r.IntN(40) == 0 {
				guards, models = append(guards, guards[i].Clone()), append(models, models[i])
			}
			for j, g := range guards {
				agree(t, r, g, models[j])
			}
		}
	}
}
