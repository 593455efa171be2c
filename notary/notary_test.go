package notary_test

import (
	"bytes"
	"math"
	"math/rand/v2"
	"slices"
	"testing"

	"psephos/api"
	"psephos/notary"
)

// A deed is a party and the bytes that it has sealed, or has not.
type deed struct {
	party int
	text  []byte
}

// parties are numbers of nodes and of clients, and numbers that belong to neither.
func parties() []int {
	return []int{0, 1, 12, 13, api.FirstClient, api.FirstClient + 3, -1, -100, 1 << 32, math.MinInt, math.MaxInt}
}

// texts differ from each other, some of them in little: a length, an order, a single bit, or only in what is no rune.
func texts() [][]byte {
	long := bytes.Repeat([]byte{7}, api.MaxBytes)
	other := slices.Clone(long)
	other[api.MaxBytes-1] = 6
	return [][]byte{
		{}, {0}, {0, 0}, {1}, {1, 0}, {0, 1}, {1, 1}, {2}, {129},
		{128}, {255}, {0xef, 0xbf, 0xbd}, {0xc0, 0x80},
		[]byte("a text"), []byte("a texT"), []byte("a text "), []byte(" a text"), []byte("a tex"),
		long, other, long[1:], append(slices.Clone(long), 7),
	}
}

// deeds are all of these texts of all of these parties.
func deeds() []deed {
	var l []deed
	for _, p := range parties() {
		for _, text := range texts() {
			l = append(l, deed{p, text})
		}
	}
	return l
}

// gives checks that Seal returns this seal.
func gives(t *testing.T, n *notary.Notary, d deed, seal int) {
	t.Helper()
	if got := n.Seal(d.party, d.text); got != seal {
		t.Errorf("Seal(%d, %.20v) = %d; want %d", d.party, d.text, got, seal)
	}
}

// holds checks that this seal, and no other one, is known as the one that was given.
func holds(t *testing.T, n *notary.Notary, d deed, seal int) {
	t.Helper()
	if got, ok := n.Find(d.party, d.text); got != seal || !ok {
		t.Errorf("Find(%d, %.20v) = %d, %v; want %d, true", d.party, d.text, got, ok, seal)
	}
	if !n.Check(d.party, d.text, seal) {
		t.Errorf("Check(%d, %.20v, %d) = false; want true", d.party, d.text, seal)
	}
	for _, other := range []int{seal - 1, seal + 1, 0, -seal, seal + 1<<32, seal + 1<<40, math.MinInt, math.MaxInt} {
		if n.Check(d.party, d.text, other) {
			t.Errorf("Check(%d, %.20v, %d) = true, with the seal %d; want false", d.party, d.text, other, seal)
		}
	}
}

// lacks checks that no seal is known, whichever it were.
func lacks(t *testing.T, n *notary.Notary, d deed) {
	t.Helper()
	if got, ok := n.Find(d.party, d.text); got != 0 || ok {
		t.Errorf("Find(%d, %.20v) = %d, %v; want 0, false", d.party, d.text, got, ok)
	}
	last := n.Len()
	for _, seal := range []int{0, 1, 2, last - 1, last, last + 1, -1, math.MinInt, math.MaxInt} {
		if n.Check(d.party, d.text, seal) {
			t.Errorf("Check(%d, %.20v, %d) = true, though no seal was given; want false", d.party, d.text, seal)
		}
	}
}

// counts checks Len.
func counts(t *testing.T, n *notary.Notary, want int) {
	t.Helper()
	if got := n.Len(); got != want {
		t.Errorf("Len() = %d; want %d", got, want)
	}
}

// P3.1: a new notary has given nothing to anybody.
func TestNew(t *testing.T) {
	n := notary.New()
	counts(t, n, 0)
	for _, d := range deeds() {
		lacks(t, n, d)
	}
	counts(t, n, 0)
}

// P3.1: the chapter's example, and the parties told apart behind it.
func TestTwoParties(t *testing.T) {
	n := notary.New()
	one, two := deed{0, []byte("a text")}, deed{api.FirstClient, []byte("a text")}
	gives(t, n, one, 1)
	lacks(t, n, two)
	gives(t, n, two, 2)
	holds(t, n, one, 1)
	holds(t, n, two, 2)
	lacks(t, n, deed{1, []byte("a text")})
	lacks(t, n, deed{0, []byte("another text")})
	counts(t, n, 2)
}

// P3.1: each party and each string of bytes has a seal of its own, one more than the last new one, and keeps it.
func TestSeals(t *testing.T) {
	n := notary.New()
	l := deeds()
	for i, d := range l {
		lacks(t, n, d)
		gives(t, n, d, i+1)
		holds(t, n, d, i+1)
		counts(t, n, i+1)
		gives(t, n, d, i+1)
		gives(t, n, l[i/2], i/2+1)
		counts(t, n, i+1)
	}
	for i, d := range slices.Backward(l) {
		gives(t, n, d, i+1)
		holds(t, n, d, i+1)
	}
	counts(t, n, len(l))
}

// P3.1: a seal is nobody else's, and is for nothing else.
func TestSealOfAnother(t *testing.T) {
	n := notary.New()
	l := deeds()
	for i, d := range l {
		gives(t, n, d, i+1)
	}
	for i, d := range l {
		for j := range l {
			if got := n.Check(d.party, d.text, j+1); got != (i == j) {
				t.Fatalf("Check(%d, %.20v, %d) = %v; its seal is %d", d.party, d.text, j+1, got, i+1)
			}
		}
	}
}

// P3.1: asking gives no seal, and an old seal makes no number pass.
func TestAskingGivesNothing(t *testing.T) {
	n := notary.New()
	a, b, c := deed{3, []byte{1}}, deed{3, []byte{2}}, deed{4, []byte{1}}
	gives(t, n, a, 1)
	for range 5 {
		lacks(t, n, b)
		lacks(t, n, c)
		gives(t, n, a, 1)
		holds(t, n, a, 1)
	}
	counts(t, n, 1)
	gives(t, n, c, 2)
	gives(t, n, b, 3)
	counts(t, n, 3)
}

// P3.1: nil is the empty string of bytes, whichever of the two comes first.
func TestNilAndEmpty(t *testing.T) {
	for _, pair := range [][2][]byte{{nil, {}}, {{}, nil}, {nil, make([]byte, 5)[:0]}} {
		n := notary.New()
		gives(t, n, deed{2, pair[0]}, 1)
		gives(t, n, deed{2, pair[1]}, 1)
		holds(t, n, deed{2, pair[0]}, 1)
		holds(t, n, deed{2, pair[1]}, 1)
		lacks(t, n, deed{2, []byte{0}})
		counts(t, n, 1)
	}
}

// P3.1: two notaries know nothing of each other.
func TestNotariesApart(t *testing.T) {
	one, two := notary.New(), notary.New()
	a, b := deed{0, []byte{1}}, deed{0, []byte{2}}
	gives(t, one, a, 1)
	gives(t, two, b, 1)
	lacks(t, one, b)
	lacks(t, two, a)
	gives(t, two, a, 2)
	holds(t, one, a, 1)
	counts(t, one, 1)
	counts(t, two, 2)
}

// P3.1: a clone is in the same state, and from then on each goes its own way.
func TestClone(t *testing.T) {
	n := notary.New()
	a, b, c, d := deed{1, []byte("a")}, deed{1, []byte("b")}, deed{2, []byte("c")}, deed{3, []byte("d")}
	gives(t, n, a, 1)
	gives(t, n, b, 2)
	other := n.Clone()
	if other == n {
		t.Fatal("Clone() returns the same object")
	}
	counts(t, other, 2)
	holds(t, other, a, 1)
	holds(t, other, b, 2)
	lacks(t, other, c)

	gives(t, n, c, 3)
	lacks(t, other, c)
	counts(t, other, 2)
	gives(t, other, d, 3)
	gives(t, other, c, 4)
	lacks(t, n, d)
	counts(t, n, 3)
	counts(t, other, 4)
	gives(t, n, d, 4)
	holds(t, n, c, 3)
	holds(t, other, c, 4)
	holds(t, other, d, 3)
}

// P3.1: clones of a notary without seals, and of clones.
func TestCloneOfNewAndOfClone(t *testing.T) {
	n := notary.New()
	one := n.Clone()
	two := one.Clone()
	counts(t, two, 0)
	a := deed{0, nil}
	gives(t, two, a, 1)
	lacks(t, n, a)
	lacks(t, one, a)
	three := two.Clone()
	gives(t, three, deed{1, nil}, 2)
	counts(t, n, 0)
	counts(t, one, 0)
	counts(t, two, 1)
	counts(t, three, 2)
	holds(t, three, a, 1)
}

// P3.1: bytes that are handed in are neither changed nor kept, nor is what lies behind them looked at.
func TestMemory(t *testing.T) {
	n := notary.New()
	memory := []byte{9, 1, 2, 3, 4}
	b := memory[1:3]
	gives(t, n, deed{5, b}, 1)
	holds(t, n, deed{5, b}, 1)
	if !bytes.Equal(memory, []byte{9, 1, 2, 3, 4}) {
		t.Errorf("the memory of the argument is %v now", memory)
	}
	memory[3] = 77
	gives(t, n, deed{5, b}, 1)
	holds(t, n, deed{5, []byte{1, 2}}, 1)

	other := n.Clone()
	b[0] = 8
	for _, x := range []*notary.Notary{n, other} {
		lacks(t, x, deed{5, b})
		holds(t, x, deed{5, []byte{1, 2}}, 1)
		gives(t, x, deed{5, b}, 2)
		holds(t, x, deed{5, []byte{8, 2}}, 2)
		gives(t, x, deed{5, []byte{1, 2}}, 1)
	}
}

// A model does what the chapter says in the plainest way: the i-th deed of its list has the seal i + 1.
type model struct {
	given []deed
}

func (m *model) find(d deed) (int, bool) {
	i := slices.IndexFunc(m.given, func(e deed) bool { return e.party == d.party && bytes.Equal(e.text, d.text) })
	return i + 1, i >= 0
}

func (m *model) seal(d deed) int {
	if seal, ok := m.find(d); ok {
		return seal
	}
	m.given = append(m.given, deed{d.party, slices.Clone(d.text)})
	return len(m.given)
}

// P3.1: any calls, on a notary and on clones of it, answer as the model.
func TestAnyCalls(t *testing.T) {
	r := rand.New(rand.NewPCG(3, 1))
	for range 40 {
		notaries, models := []*notary.Notary{notary.New()}, []*model{{}}
		for range 300 {
			i := r.IntN(len(notaries))
			n, m := notaries[i], models[i]
			d := deed{r.IntN(3), make([]byte, r.IntN(4))}
			for k := range d.text {
				d.text[k] = byte(r.IntN(2))
			}
			seal, ok := m.find(d)
			if got, gotOK := n.Find(d.party, d.text); got != seal || gotOK != ok {
				t.Fatalf("Find(%d, %v) = %d, %v; want %d, %v", d.party, d.text, got, gotOK, seal, ok)
			}
			asked := r.IntN(len(m.given) + 2)
			if got, want := n.Check(d.party, d.text, asked), ok && asked == seal; got != want {
				t.Fatalf("Check(%d, %v, %d) = %v; want %v", d.party, d.text, asked, got, want)
			}
			if r.IntN(3) == 0 {
				gives(t, n, d, m.seal(d))
			}
			counts(t, n, len(m.given))
			if r.IntN(60) == 0 {
				notaries, models = append(notaries, n.Clone()), append(models, &model{slices.Clone(m.given)})
			}
		}
	}
}
