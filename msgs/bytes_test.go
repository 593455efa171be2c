package msgs_test

import (
	"bytes"
	"math"
	"math/rand/v2"
	"reflect"
	"slices"
	"testing"

	"psephos/api"
	"psephos/msgs"
	"psephos/notary"
)

// top is the greatest number that can be written, and half the size of those with a sign.
const (
	top  = 1<<40 - 1
	half = 1 << 39
)

// far are numbers that can not be written, and could if they were cut, turned round or wrapped round.
func far() []int {
	return []int{
		math.MinInt, math.MinInt + 1, math.MinInt + 3, -1 << 40, -1<<40 + 1, -1 << 32, -1<<32 + 1, -2, -1,
		1 << 40, 1<<40 + 1, 1 << 41, 1<<48 + 1, 1 << 62, math.MaxInt - 1, math.MaxInt,
	}
}

// num are the bytes of a number, in groups of 7 bits.
func num(b []byte, n int) []byte {
	for ; n > 127; n /= 128 {
		b = append(b, byte(128+n%128))
	}
	return append(b, byte(n))
}

func nums(b []byte, l ...int) []byte {
	for _, n := range l {
		b = num(b, n)
	}
	return b
}

// sign are the bytes of a number with a sign.
func sign(b []byte, n int) []byte {
	if n < 0 {
		return num(b, -2*n-1)
	}
	return num(b, 2*n)
}

func reqsBytes(b []byte, l []api.Req) []byte {
	b = num(b, len(l))
	for _, r := range l {
		b = nums(b, r.Client, r.Time, r.Op.Kind)
		b = num(sign(sign(b, r.Op.Key), r.Op.Val), r.Seal)
	}
	return b
}

func votesBytes(b []byte, l []api.Vote) []byte {
	b = num(b, len(l))
	for _, v := range l {
		b = nums(b, v.Node, v.Seal)
	}
	return b
}

func certsBytes(b []byte, l []api.Cert) []byte {
	b = num(b, len(l))
	for _, c := range l {
		b = votesBytes(reqsBytes(nums(b, c.View, c.Inst, c.Seq), c.Batch), c.Votes)
	}
	return b
}

// bodyBytes are the bytes of a message as chapters 1, 2 and 6 say them, whether or not they are too many.
func bodyBytes(m api.Msg) []byte {
	b := sign(nums(nil, m.Kind, m.From, m.View, m.Inst, m.Seq), m.Res)
	b = certsBytes(votesBytes(reqsBytes(b, m.Batch), m.Votes), m.Certs)
	b = num(b, len(m.Parts))
	for _, p := range m.Parts {
		b = num(certsBytes(votesBytes(num(b, p.From), p.Votes), p.Certs), p.Seal)
	}
	return b
}

// same reports whether two messages are alike, a list that is nil being an empty one.
func same(a, b api.Msg) bool {
	return reflect.DeepEqual(bodyBytes(a), bodyBytes(b)) &&
		[6]int{a.Kind, a.From, a.View, a.Inst, a.Seq, a.Res} == [6]int{b.Kind, b.From, b.View, b.Inst, b.Seq, b.Res}
}

// written checks that Body and Parse take m and these bytes for one another.
func written(t *testing.T, m api.Msg, want []byte) {
	t.Helper()
	if got, ok := msgs.Body(m); !bytes.Equal(got, want) || !ok {
		t.Errorf("Body(%v) = %v, %v; want %v, true", m, got, ok, want)
	}
	if got, ok := msgs.Parse(want); !same(got, m) || !ok {
		t.Errorf("Parse(%v) = %v, %v; want %v, true", want, got, ok, m)
	}
}

// bodiless checks that m has no body.
func bodiless(t *testing.T, m api.Msg) {
	t.Helper()
	if b, ok := msgs.Body(m); len(b) != 0 || ok {
		t.Errorf("Body(%.300v) = %v, %v; want none, false", m, b, ok)
	}
}

// none checks that no message has these bytes.
func none(t *testing.T, b []byte) {
	t.Helper()
	if m, ok := msgs.Parse(b); !reflect.DeepEqual(m, api.Msg{}) || ok {
		t.Errorf("Parse(%v) = %v, %v; want none, false", b, m, ok)
	}
}

// sample has something in each field, and no number twice.
func sample() api.Msg {
	return api.Msg{
		Kind: 8, From: 3, View: 300, Inst: 2, Seq: 16, Res: -3,
		Batch: []api.Req{{Client: 1, Time: 300, Op: api.Op{Kind: 4, Key: 7, Val: -5}, Seal: 200}},
		Votes: []api.Vote{{Node: 10, Seal: 11}, {Node: 12, Seal: 13}},
		Certs: []api.Cert{{View: 14, Inst: 15, Seq: 17, Votes: []api.Vote{{Node: 18, Seal: 19}}}},
		Parts: []api.Part{{From: 20, Votes: []api.Vote{{Node: 21, Seal: 22}}, Certs: []api.Cert{{View: 23, Inst: 24, Seq: 25}}, Seal: 26}},
	}
}

// P6.1: the fields, one after the other.
func TestBodyBytes(t *testing.T) {
	written(t, api.Msg{}, make([]byte, 10))
	written(t, api.Msg{Kind: 1, From: 2, View: 3, Inst: 4, Seq: 5, Res: 6}, []byte{1, 2, 3, 4, 5, 12, 0, 0, 0, 0})
	written(t, sample(), []byte{
		8, 3, 172, 2, 2, 16, 5,
		1, 1, 172, 2, 4, 14, 9, 200, 1,
		2, 10, 11, 12, 13,
		1, 14, 15, 17, 0, 1, 18, 19,
		1, 20, 1, 21, 22, 1, 23, 24, 25, 0, 0, 26,
	})
}

// numbers are the numbers of a message before its lists.
func numbers(m *api.Msg) []*int {
	return []*int{&m.Kind, &m.From, &m.View, &m.Inst, &m.Seq, &m.Res}
}

// P6.1: each number at its ends and beyond; the result alone has a sign.
func TestBodyNumbers(t *testing.T) {
	m := sample()
	for place, p := range numbers(&m) {
		low, high := 0, top
		if place == 5 {
			low, high = -half, half-1
		}
		held := *p
		for _, n := range append(far(), low-1, low, low+1, 127, 128, half-1, half, half+1, high-1, high, high+1) {
			*p = n
			if low <= n && n <= high {
				written(t, m, bodyBytes(m))
			} else {
				bodiless(t, m)
			}
		}
		*p = held
	}
}

// P6.1: a list that can not be written, for its length or for what is in it, leaves no body.
func TestBodyLists(t *testing.T) {
	for _, n := range []int{api.MaxList, api.MaxList + 1} {
		for place := range 4 {
			m := sample()
			switch place {
			case 0:
				m.Batch = make([]api.Req, n)
			case 1:
				m.Votes = make([]api.Vote, n)
			case 2:
				m.Certs = make([]api.Cert, n)
			case 3:
				m.Parts = make([]api.Part, n)
			}
			if n == api.MaxList {
				written(t, m, bodyBytes(m))
			} else {
				bodiless(t, m)
			}
		}
	}
	for _, n := range far() {
		for place := range 4 {
			m := sample()
			switch place {
			case 0:
				m.Batch[0].Seal = n
			case 1:
				m.Votes[1].Node = n
			case 2:
				m.Certs[0].Votes[0].Seal = n
			case 3:
				m.Parts[0].Certs[0].Seq = n
			}
			bodiless(t, m)
		}
	}
}

// sized is a message whose bytes are exactly so many.
func sized(t *testing.T, n int) api.Msg {
	t.Helper()
	m := api.Msg{}
	wide := slices.Repeat([]api.Vote{{Node: top, Seal: top}}, 100)
	for len(bodyBytes(m)) < n-1500 {
		m.Certs = append(m.Certs, api.Cert{Votes: wide})
	}
	for len(bodyBytes(m)) < n-11 {
		m.Votes = append(m.Votes, api.Vote{Node: top, Seal: 5})
	}
	for len(bodyBytes(m)) < n-1 {
		m.Votes = append(m.Votes, api.Vote{Node: 5, Seal: 5})
	}
	if len(bodyBytes(m)) < n {
		m.Kind = 128
	}
	if len(bodyBytes(m)) != n {
		t.Fatalf("%d bytes instead of %d", len(bodyBytes(m)), n)
	}
	return m
}

// P6.1: a body of as many bytes as there may be, and one more.
func TestBodySize(t *testing.T) {
	for n := api.MaxBytes - 3; n <= api.MaxBytes; n++ {
		m := sized(t, n)
		if b, ok := msgs.Body(m); !bytes.Equal(b, bodyBytes(m)) || !ok {
			t.Errorf("%d bytes are no body", n)
		}
		if got, ok := msgs.Parse(bodyBytes(m)); !same(got, m) || !ok {
			t.Errorf("%d bytes are no message", n)
		}
	}
	for n := api.MaxBytes + 1; n <= api.MaxBytes+3; n++ {
		m := sized(t, n)
		bodiless(t, m)
		if got, ok := msgs.Parse(bodyBytes(m)); !reflect.DeepEqual(got, api.Msg{}) || ok {
			t.Errorf("%d bytes are a message", n)
		}
	}
	m := sized(t, api.MaxBytes)
	m.Parts = []api.Part{{}}
	bodiless(t, m)
	m.Parts, m.Res = nil, 64
	bodiless(t, m)
}

// P6.1: bytes that end too soon, go on too long, or are none at all.
func TestParseEnds(t *testing.T) {
	none(t, nil)
	none(t, []byte{})
	for _, m := range []api.Msg{{}, sample(), {Kind: 200, Res: -half, Parts: []api.Part{{Seal: top}}}} {
		b := bodyBytes(m)
		for end := range b {
			none(t, b[:end])
		}
		for _, more := range [][]byte{{0}, {1}, {128}, {0, 0}, b} {
			none(t, append(slices.Clone(b), more...))
		}
	}
}

// P6.1: a field that is written in another form than its own, or a list that is too long, is none.
func TestParseForms(t *testing.T) {
	zero := make([]byte, 10)
	for place := range zero {
		none(t, slices.Replace(slices.Clone(zero), place, place+1, 128, 0))
		none(t, slices.Replace(slices.Clone(zero), place, place+1, 129, 128, 0))
		none(t, slices.Replace(slices.Clone(zero), place, place+1, num(nil, top+1)...))
	}
	for place, wide := range map[int]int{6: 6, 7: 2, 8: 5, 9: 4} {
		for _, n := range []int{api.MaxList, api.MaxList + 1} {
			b := append(slices.Clone(zero[:place]), num(nil, n)...)
			b = append(append(b, make([]byte, n*wide)...), zero[place+1:]...)
			if _, ok := msgs.Parse(b); ok != (n == api.MaxList) {
				t.Errorf("a list of %d as field %d is %v", n, place, ok)
			}
		}
	}
}

// anyNumber is most often a small number.
func anyNumber(r *rand.Rand) int {
	return r.IntN(1 << r.IntN(41))
}

func anySigned(r *rand.Rand) int {
	return r.IntN(1<<r.IntN(40)) * (1 - 2*r.IntN(2))
}

func anyVotes(r *rand.Rand) []api.Vote {
	var l []api.Vote
	for range r.IntN(4) {
		l = append(l, api.Vote{Node: anyNumber(r), Seal: anyNumber(r)})
	}
	return l
}

func anyBatch(r *rand.Rand) []api.Req {
	var l []api.Req
	for range r.IntN(4) {
		op := api.Op{Kind: anyNumber(r), Key: anySigned(r), Val: anySigned(r)}
		l = append(l, api.Req{Client: anyNumber(r), Time: anyNumber(r), Op: op, Seal: anyNumber(r)})
	}
	return l
}

func anyCerts(r *rand.Rand) []api.Cert {
	var l []api.Cert
	for range r.IntN(3) {
		l = append(l, api.Cert{View: anyNumber(r), Inst: anyNumber(r), Seq: anyNumber(r), Batch: anyBatch(r), Votes: anyVotes(r)})
	}
	return l
}

// anyMsg is a message that can be written, of whatever form.
func anyMsg(r *rand.Rand) api.Msg {
	m := api.Msg{Kind: anyNumber(r), From: anyNumber(r), View: anyNumber(r), Inst: anyNumber(r), Seq: anyNumber(r), Res: anySigned(r)}
	m.Batch, m.Votes, m.Certs = anyBatch(r), anyVotes(r), anyCerts(r)
	for range r.IntN(3) {
		m.Parts = append(m.Parts, api.Part{From: anyNumber(r), Votes: anyVotes(r), Certs: anyCerts(r), Seal: anyNumber(r)})
	}
	return m
}

// P6.1: any message and its bytes, and bytes near to them, of which each is either none or a body.
func TestParseAny(t *testing.T) {
	r := rand.New(rand.NewPCG(6, 1))
	found := 0
	for range 2000 {
		m := anyMsg(r)
		b := bodyBytes(m)
		written(t, m, b)
		for range 10 {
			near := slices.Clone(b)
			near[r.IntN(len(near))] = byte(r.IntN(256))
			got, ok := msgs.Parse(near)
			if !ok {
				none(t, near)
				continue
			}
			found++
			if again, ok := msgs.Body(got); !ok || !bytes.Equal(again, near) {
				t.Fatalf("Parse(%v) = %v, whose Body is %v, %v", near, got, again, ok)
			}
		}
	}
	if found == 0 || found == 20000 {
		t.Errorf("%d of 20000 were messages, which tells nothing", found)
	}
}

// P6.1: an envelope is the seal's bytes and then the body's, of whatever bytes it is.
func TestEnvelope(t *testing.T) {
	for _, body := range [][]byte{nil, {}, {0}, {200, 9}, make([]byte, 300)} {
		for _, seal := range []int{0, 1, 127, 128, 16383, 16384, top} {
			want := append(num(nil, seal), body...)
			if got, ok := msgs.Envelope(seal, body); !bytes.Equal(got, want) || !ok {
				t.Errorf("Envelope(%d, %v) = %v, %v; want %v, true", seal, body, got, ok, want)
			}
		}
		for _, seal := range far() {
			if got, ok := msgs.Envelope(seal, body); len(got) != 0 || ok {
				t.Errorf("Envelope(%d, %v) = %v, %v; want none, false", seal, body, got, ok)
			}
		}
	}
}

// P6.1: an envelope of as many bytes as there may be, and one more, however long its seal.
func TestEnvelopeSize(t *testing.T) {
	for _, seal := range []int{0, 127, 128, top} {
		most := api.MaxBytes - len(num(nil, seal))
		for n := most - 2; n <= most+2; n++ {
			got, ok := msgs.Envelope(seal, make([]byte, n))
			if ok != (n <= most) || ok && len(got) != n+api.MaxBytes-most || !ok && len(got) != 0 {
				t.Errorf("Envelope(%d, %d bytes) is %d bytes, %v", seal, n, len(got), ok)
			}
		}
	}
}

// P6.1: Seal gives the sender's seal for the body, the same one again.
func TestSeal(t *testing.T) {
	n := notary.New()
	a, b := sample(), sample()
	b.From = 101
	c := a
	c.Seq++
	for i, x := range []struct {
		m    api.Msg
		seal int
	}{{a, 1}, {b, 2}, {a, 1}, {c, 3}, {b, 2}, {api.Msg{From: top}, 4}} {
		want := append([]byte{byte(x.seal)}, bodyBytes(x.m)...)
		if got, ok := msgs.Seal(x.m, n); !bytes.Equal(got, want) || !ok {
			t.Errorf("step %d: Seal = %v, %v; want %v, true", i, got, ok, want)
		}
		if !n.Check(x.m.From, bodyBytes(x.m), x.seal) {
			t.Errorf("step %d: %d is not the sender's seal", i, x.seal)
		}
	}
	if n.Len() != 4 {
		t.Errorf("%d seals were given; want 4", n.Len())
	}
}

// P6.1: without a body there is no seal; a body that leaves no room for one has no envelope.
func TestSealNone(t *testing.T) {
	n := notary.New()
	long := sample()
	long.Votes = make([]api.Vote, api.MaxList+1)
	for _, m := range []api.Msg{{Kind: -1}, {From: -1}, {Res: half}, long, sized(t, api.MaxBytes+1)} {
		if b, ok := msgs.Seal(m, n); len(b) != 0 || ok || n.Len() != 0 {
			t.Errorf("Seal(%.300v) = %v, %v with %d seals; want none, false with 0", m, b, ok, n.Len())
		}
	}
	if b, ok := msgs.Seal(sized(t, api.MaxBytes), n); len(b) != 0 || ok {
		t.Errorf("Seal of the longest body = %d bytes, %v; want none, false", len(b), ok)
	}
	n = notary.New()
	if b, ok := msgs.Seal(sized(t, api.MaxBytes-1), n); len(b) != api.MaxBytes || !ok {
		t.Errorf("Seal of a body one byte shorter = %d bytes, %v; want %d, true", len(b), ok, api.MaxBytes)
	}
	for n.Len() < 127 {
		n.Seal(0, num(nil, n.Len()))
	}
	m := sized(t, api.MaxBytes-1)
	m.From++
	if b, ok := msgs.Seal(m, n); len(b) != 0 || ok {
		t.Errorf("Seal with a seal of two bytes = %d bytes, %v; want none, false", len(b), ok)
	}
}

// P6.1: what is handed in stays as it is, and each answer is new.
func TestBytesMemory(t *testing.T) {
	m := sample()
	b, _ := msgs.Body(m)
	whole := append(slices.Clone(b), 9, 9, 9)
	part := whole[:len(b)]
	got, _ := msgs.Parse(part)
	e, _ := msgs.Envelope(7, part)
	again, _ := msgs.Envelope(7, part)
	clear(e[:cap(e)])
	if !bytes.Equal(again, append([]byte{7}, b...)) || !bytes.Equal(whole, append(slices.Clone(b), 9, 9, 9)) {
		t.Errorf("an envelope shares its bytes: %v, %v", again, whole)
	}
	clear(whole)
	if !same(got, m) || !same(m, sample()) {
		t.Errorf("a message shares its bytes: %v, %v", got, m)
	}
	clear(b[:cap(b)])
	if b, _ := msgs.Body(m); !bytes.Equal(b, bodyBytes(m)) {
		t.Errorf("a body shares its bytes: %v", b)
	}
}
