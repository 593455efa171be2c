package link_test

import (
	"bytes"
	"math"
	"math/rand/v2"
	"slices"
	"strconv"
	"testing"

	"psephos/api"
	"psephos/link"
)

// far are numbers that are no room and no index, and would be one if they were cut or wrapped round.
func far() []int {
	return []int{
		math.MinInt, math.MinInt + 1, math.MinInt + 2, -1 << 32, -1<<32 + 1, -1 << 16, -65535, -256, -255, -3, -2, -1,
		257, 258, 511, 512, 513, 1 << 16, 1<<16 + 1, 1 << 32, 1<<32 + 1, 1<<32 + 2, math.MaxInt - 1, math.MaxInt,
	}
}

// outside are indexes that no queue of n elements has.
func outside(n int) []int {
	return append(far(), n, n+1, n+2, api.MaxQueue)
}

// made returns a new queue that could be made.
func made(t *testing.T, room int) *link.Queue {
	t.Helper()
	q, err := link.New(room)
	if q == nil || err != api.OK {
		t.Fatalf("New(%d) = %v, %d; want a queue, %d", room, q, err, api.OK)
	}
	return q
}

// queued returns a queue with this room that holds these texts.
func queued(t *testing.T, room int, texts ...string) *link.Queue {
	t.Helper()
	q := made(t, room)
	for _, text := range texts {
		pushes(t, q, text)
	}
	return q
}

// pushes checks that there is room for the text.
func pushes(t *testing.T, q *link.Queue, text string) {
	t.Helper()
	if !q.Push([]byte(text)) {
		t.Errorf("Push(%.20q) = false; want true", text)
	}
}

// loses checks that the text is lost.
func loses(t *testing.T, q *link.Queue, text string) {
	t.Helper()
	before := q.Lost()
	if q.Push([]byte(text)) {
		t.Errorf("Push(%.20q) of %d bytes = true; want false", text, len(text))
	}
	if got := q.Lost(); got != before+1 {
		t.Errorf("Lost() = %d after %d and one more that was lost", got, before)
	}
}

// takes checks that Take(k) returns the text.
func takes(t *testing.T, q *link.Queue, k int, text string) {
	t.Helper()
	if b, ok := q.Take(k); string(b) != text || !ok {
		t.Errorf("Take(%d) = %.20q, %v; want %.20q, true", k, b, ok, text)
	}
}

// holds checks everything that can be seen of a queue: these texts in this order, and how many were lost.
func holds(t *testing.T, q *link.Queue, lost int, texts ...string) {
	t.Helper()
	if got := q.Len(); got != len(texts) {
		t.Fatalf("Len() = %d; want %d", got, len(texts))
	}
	if got := q.Lost(); got != lost {
		t.Errorf("Lost() = %d; want %d", got, lost)
	}
	for k, text := range texts {
		if b, ok := q.Peek(k); string(b) != text || !ok {
			t.Errorf("Peek(%d) = %.20q, %v; want %.20q, true", k, b, ok, text)
		}
	}
	for _, k := range outside(len(texts)) {
		if b, ok := q.Peek(k); len(b) != 0 || ok {
			t.Errorf("Peek(%d) of %d elements = %.20q, %v; want none, false", k, len(texts), b, ok)
		}
	}
}

// P7.1: a queue can have any room from 1 to MaxQueue, and is empty at first.
func TestNew(t *testing.T) {
	for room := 1; room <= api.MaxQueue; room++ {
		q := made(t, room)
		holds(t, q, 0)
	}
}

// P7.1: no other room.
func TestNewWithoutRoom(t *testing.T) {
	for _, room := range append(far(), 0, api.MaxQueue+1) {
		if q, err := link.New(room); q != nil || err != api.ErrArg {
			t.Errorf("New(%d) = %v, %d; want nil, %d", room, q, err, api.ErrArg)
		}
	}
}

// P7.1: the chapter's example.
func TestRoomForOne(t *testing.T) {
	q := made(t, 1)
	pushes(t, q, "one")
	loses(t, q, "two")
	holds(t, q, 1, "one")
}

// P7.1: each room holds as many elements as it says, in order; the next ones are lost till one is taken.
func TestFull(t *testing.T) {
	for _, room := range []int{1, 2, 3, 4, 5, 7, 8, 9, 16, 64, 100, 255, api.MaxQueue} {
		q := made(t, room)
		var texts []string
		for i := range room {
			texts = append(texts, strconv.Itoa(i))
			pushes(t, q, texts[i])
		}
		holds(t, q, 0, texts...)
		loses(t, q, "too many")
		loses(t, q, "")
		loses(t, q, "too many")
		holds(t, q, 3, texts...)

		takes(t, q, room/2, texts[room/2])
		texts = slices.Delete(texts, room/2, room/2+1)
		holds(t, q, 3, texts...)
		pushes(t, q, "again")
		texts = append(texts, "again")
		loses(t, q, "too many")
		holds(t, q, 4, texts...)
	}
}

// P7.1: MaxBytes bytes are an element, one more are lost; too many bytes without room are lost once.
func TestLength(t *testing.T) {
	long := string(bytes.Repeat([]byte{200}, api.MaxBytes))
	q := queued(t, 3, long[:api.MaxBytes-1], long)
	holds(t, q, 0, long[:api.MaxBytes-1], long)
	for i, more := range []string{long + "x", long + "xy", long + long, long + long + "x"} {
		loses(t, q, more)
		holds(t, q, i+1, long[:api.MaxBytes-1], long)
	}
	pushes(t, q, "short")
	loses(t, q, long+"x")
	loses(t, q, long)
	holds(t, q, 6, long[:api.MaxBytes-1], long, "short")
	takes(t, q, 1, long)
	holds(t, q, 6, long[:api.MaxBytes-1], "short")
}

// P7.1: any bytes are an element: none at all, equal ones, and those that are no runes.
func TestAnyBytes(t *testing.T) {
	texts := []string{"", "\x00", "\x00\x00", "", "same", "same", "\xff", "\xc0\x80", "\xef\xbf\xbd", "\x80", "é"}
	q := queued(t, len(texts), texts...)
	holds(t, q, 0, texts...)
	loses(t, q, "")
	for _, text := range texts {
		takes(t, q, 0, text)
	}
	holds(t, q, 1)
	if !q.Push(nil) {
		t.Error("Push(nil) = false; want true")
	}
	holds(t, q, 1, "")
	takes(t, q, 0, "")
	holds(t, q, 1)
}

// P7.1: Take removes exactly the element with the index; the others stay in order.
func TestTake(t *testing.T) {
	texts := []string{"a", "b", "c", "d", "e"}
	for k, text := range texts {
		q := queued(t, 5, texts...)
		takes(t, q, k, text)
		left := slices.Delete(slices.Clone(texts), k, k+1)
		holds(t, q, 0, left...)
		pushes(t, q, "f")
		holds(t, q, 0, append(left, "f")...)
	}
	q := queued(t, 5, texts...)
	takes(t, q, 4, "e")
	takes(t, q, 0, "a")
	takes(t, q, 1, "c")
	takes(t, q, 1, "d")
	takes(t, q, 0, "b")
	holds(t, q, 0)
}

// P7.1: Take of what is not there returns nothing and changes nothing.
func TestTakeOutside(t *testing.T) {
	for n, texts := range [][]string{{}, {"a"}, {"a", "b"}, {"a", "b", "c"}} {
		q := queued(t, 4, texts...)
		for _, k := range outside(n) {
			if b, ok := q.Take(k); len(b) != 0 || ok {
				t.Errorf("Take(%d) of %d elements = %q, %v; want none, false", k, n, b, ok)
			}
		}
		holds(t, q, 0, texts...)
	}
}

// P7.1: Dup appends a copy to the end, whichever element it is, and copies of copies.
func TestDup(t *testing.T) {
	texts := []string{"a", "", "c"}
	for k, text := range texts {
		q := queued(t, 5, texts...)
		if !q.Dup(k) {
			t.Errorf("Dup(%d) = false; want true", k)
		}
		holds(t, q, 0, append(slices.Clone(texts), text)...)
		if !q.Dup(3) {
			t.Error("Dup(3) of a copy = false; want true")
		}
		holds(t, q, 0, append(slices.Clone(texts), text, text)...)
		takes(t, q, k, text)
		takes(t, q, 2, text)
		takes(t, q, 2, text)
		holds(t, q, 0, slices.Delete(slices.Clone(texts), k, k+1)...)
	}
}

// P7.1: Dup without room does nothing, and nothing is lost by it.
func TestDupFull(t *testing.T) {
	for _, texts := range [][]string{{"a"}, {"a", "b"}, {"a", "b", "c", "d"}} {
		q := queued(t, len(texts), texts...)
		for k := range texts {
			if q.Dup(k) {
				t.Errorf("Dup(%d) in a full queue = true; want false", k)
			}
		}
		holds(t, q, 0, texts...)
		loses(t, q, "z")
		if q.Dup(0) {
			t.Error("Dup(0) in a full queue = true; want false")
		}
		holds(t, q, 1, texts...)
	}
	q := queued(t, 2, "a")
	if !q.Dup(0) || q.Dup(0) || q.Dup(1) {
		t.Error("there is room for one copy only")
	}
	holds(t, q, 0, "a", "a")
}

// P7.1: Dup of what is not there does nothing, with room or without.
func TestDupOutside(t *testing.T) {
	for _, room := range []int{2, 3, api.MaxQueue} {
		empty, q := made(t, room), queued(t, room, "a", "b")
		for _, k := range append(outside(2), 0) {
			if empty.Dup(k) {
				t.Errorf("Dup(%d) of an empty queue = true; want false", k)
			}
		}
		for _, k := range outside(2) {
			if q.Dup(k) {
				t.Errorf("Dup(%d) of 2 elements = true; want false", k)
			}
		}
		holds(t, empty, 0)
		holds(t, q, 0, "a", "b")
	}
}

// P7.1: Move to each index from each: where the others go, to the front, to the end, and to where it is.
func TestMove(t *testing.T) {
	for _, c := range []struct {
		k, to int
		want  string
	}{
		{0, 0, "abcd"}, {0, 1, "bacd"}, {0, 2, "bcad"}, {0, 3, "bcda"},
		{1, 0, "bacd"}, {1, 1, "abcd"}, {1, 2, "acbd"}, {1, 3, "acdb"},
		{2, 0, "cabd"}, {2, 1, "acbd"}, {2, 2, "abcd"}, {2, 3, "abdc"},
		{3, 0, "dabc"}, {3, 1, "adbc"}, {3, 2, "abdc"}, {3, 3, "abcd"},
	} {
		for _, room := range []int{4, 5, 8} {
			q := queued(t, room, "a", "b", "c", "d")
			if !q.Move(c.k, c.to) {
				t.Errorf("Move(%d, %d) of 4 elements = false; want true", c.k, c.to)
			}
			var want []string
			for _, r := range c.want {
				want = append(want, string(r))
			}
			holds(t, q, 0, want...)
		}
	}
	q := queued(t, 1, "a")
	if !q.Move(0, 0) {
		t.Error("Move(0, 0) of 1 element = false; want true")
	}
	holds(t, q, 0, "a")
}

// P7.1: Move from or to what is not there does nothing; the index behind the last one is not there either.
func TestMoveOutside(t *testing.T) {
	for n, texts := range [][]string{{}, {"a"}, {"a", "b"}, {"a", "b", "c"}} {
		q := queued(t, 4, texts...)
		moves := func(k, to int) {
			if q.Move(k, to) {
				t.Errorf("Move(%d, %d) of %d elements = true; want false", k, to, n)
			}
		}
		for _, there := range append(outside(n), 0, n-1) {
			for _, not := range outside(n) {
				moves(there, not)
				moves(not, there)
			}
		}
		holds(t, q, 0, texts...)
	}
}

// P7.1: what is taken, copied or moved makes room or needs it, and counts nothing as lost.
func TestLostStays(t *testing.T) {
	q := queued(t, 2, "a", "b")
	loses(t, q, "c")
	takes(t, q, 0, "a")
	q.Take(5)
	q.Peek(5)
	q.Dup(0)
	q.Dup(0)
	q.Dup(5)
	q.Move(0, 1)
	q.Move(0, 2)
	holds(t, q, 1, "b", "b")
	takes(t, q, 1, "b")
	takes(t, q, 0, "b")
	holds(t, q, 1)
}

// P7.1: a clone has the same elements, the same room and has lost as many; from then on each goes its own way.
func TestClone(t *testing.T) {
	q := queued(t, 4, "a", "b", "c")
	loses(t, q, string(make([]byte, api.MaxBytes+1)))
	other := q.Clone()
	if other == q {
		t.Fatal("Clone() returns the same object")
	}
	holds(t, other, 1, "a", "b", "c")

	pushes(t, q, "d")
	holds(t, other, 1, "a", "b", "c")
	pushes(t, other, "e")
	holds(t, q, 1, "a", "b", "c", "d")
	loses(t, other, "f")
	loses(t, other, "f")
	holds(t, q, 1, "a", "b", "c", "d")
	holds(t, other, 3, "a", "b", "c", "e")

	other.Move(0, 3)
	takes(t, q, 1, "b")
	holds(t, q, 1, "a", "c", "d")
	holds(t, other, 3, "b", "c", "e", "a")
	q.Dup(2)
	takes(t, other, 0, "b")
	takes(t, other, 2, "a")
	holds(t, q, 1, "a", "c", "d", "d")
	holds(t, other, 3, "c", "e")
	loses(t, q, "g")
	holds(t, other, 3, "c", "e")
}

// P7.1: clones of an empty queue, of a full one, and of clones.
func TestCloneOfEmptyAndOfClone(t *testing.T) {
	q := made(t, 1)
	one := q.Clone()
	two := one.Clone()
	pushes(t, two, "a")
	three := two.Clone()
	loses(t, three, "b")
	takes(t, three, 0, "a")
	pushes(t, three, "c")
	loses(t, two, "d")
	holds(t, q, 0)
	holds(t, one, 0)
	holds(t, two, 1, "a")
	holds(t, three, 1, "c")
}

// P7.1: bytes that are handed in are neither changed nor kept, nor is what lies behind them looked at.
func TestMemoryOfArguments(t *testing.T) {
	memory := []byte("-text-")
	q := made(t, 2)
	if !q.Push(memory[1:5]) || !q.Push(memory[1:1]) {
		t.Error("there is no room")
	}
	if string(memory) != "-text-" {
		t.Errorf("the memory of the argument is %q now", memory)
	}
	other := q.Clone()
	copy(memory, "######")
	holds(t, q, 0, "text", "")
	holds(t, other, 0, "text", "")
}

// spoil changes all of the memory that a caller can reach from b.
func spoil(b []byte) {
	b = b[:cap(b)]
	for i := range b {
		b[i] = '#'
	}
}

// P7.1: what is handed out is new memory: no element, copy or clone hangs on it, nor on what lies behind it.
func TestMemoryOfResults(t *testing.T) {
	q := queued(t, 6, "a text", "another", "")
	q.Dup(0)
	q.Dup(2)
	other := q.Clone()
	var peeked [][]byte
	for k := range q.Len() {
		b, _ := q.Peek(k)
		peeked = append(peeked, b)
		b, _ = q.Peek(k)
		spoil(b)
	}
	holds(t, q, 0, "a text", "another", "", "a text", "")
	for range 2 {
		b, _ := q.Take(0)
		spoil(b)
	}
	holds(t, q, 0, "", "a text", "")
	holds(t, other, 0, "a text", "another", "", "a text", "")
	for k, text := range []string{"a text", "another", "", "a text", ""} {
		if string(peeked[k]) != text {
			t.Errorf("what Peek(%d) returned is %q now; it was %q", k, peeked[k], text)
		}
	}
	for _, b := range peeked {
		spoil(b)
	}
	holds(t, q, 0, "", "a text", "")
	holds(t, other, 0, "a text", "another", "", "a text", "")
}

// A model does what the chapter says in the plainest way, with a new list for each change.
type model struct {
	room, lost int
	texts      []string
}

func (m *model) push(text string) bool {
	if len(m.texts) >= m.room {
		m.lost++
		return false
	}
	m.texts = slices.Concat(m.texts, []string{text})
	return true
}

func (m *model) take(k int) (string, bool) {
	if k < 0 || k >= len(m.texts) {
		return "", false
	}
	text := m.texts[k]
	m.texts = slices.Concat(m.texts[:k], m.texts[k+1:])
	return text, true
}

func (m *model) dup(k int) bool {
	return k >= 0 && k < len(m.texts) && len(m.texts) < m.room && m.push(m.texts[k])
}

func (m *model) move(k, to int) bool {
	if to < 0 || to >= len(m.texts) {
		return false
	}
	text, ok := m.take(k)
	if ok {
		m.texts = slices.Concat(m.texts[:to], []string{text}, m.texts[to:])
	}
	return ok
}

// turn does one thing to a queue and its model, and checks that both answer the same.
func turn(t *testing.T, r *rand.Rand, q *link.Queue, m *model) {
	t.Helper()
	k, to := r.IntN(m.room+3)-1, r.IntN(m.room+3)-1
	switch r.IntN(5) {
	case 0, 1:
		text := strconv.Itoa(r.IntN(1000))[1:]
		if got, want := q.Push([]byte(text)), m.push(text); got != want {
			t.Fatalf("Push(%q) = %v; want %v", text, got, want)
		}
	case 2:
		want, wantOK := m.take(k)
		if got, ok := q.Take(k); string(got) != want || ok != wantOK {
			t.Fatalf("Take(%d) = %q, %v; want %q, %v", k, got, ok, want, wantOK)
		}
	case 3:
		if got, want := q.Dup(k), m.dup(k); got != want {
			t.Fatalf("Dup(%d) = %v; want %v", k, got, want)
		}
	case 4:
		if got, want := q.Move(k, to), m.move(k, to); got != want {
			t.Fatalf("Move(%d, %d) = %v; want %v", k, to, got, want)
		}
	}
}

// P7.1: any calls, on a queue and on clones of it, answer as the model.
func TestAnyCalls(t *testing.T) {
	r := rand.New(rand.NewPCG(7, 1))
	for range 60 {
		room := 1 + r.IntN(9)
		queues, models := []*link.Queue{made(t, room)}, []*model{{room: room}}
		for range 200 {
			i := r.IntN(len(queues))
			turn(t, r, queues[i], models[i])
			if r.IntN(50) == 0 {
				copied := *models[i]
				queues, models = append(queues, queues[i].Clone()), append(models, &copied)
			}
			for j, q := range queues {
				holds(t, q, models[j].lost, models[j].texts...)
			}
		}
	}
}
