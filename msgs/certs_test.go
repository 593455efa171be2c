package msgs_test

import (
	"bytes"
	"math"
	"reflect"
	"slices"
	"testing"

	"psephos/api"
	"psephos/msgs"
	"psephos/notary"
	"psephos/reqs"
)

// made are sealed requests of both clients, in order.
func made(t *testing.T, n *notary.Notary, most int) []api.Req {
	t.Helper()
	var l []api.Req
	for i := range most {
		r, err := reqs.Make(n, clients, i%clients, 1+i, api.Op{Kind: api.Add, Key: i, Val: -i})
		if err != api.OK {
			t.Fatalf("Make = error %d", err)
		}
		l = append(l, r)
	}
	return reqs.Order(l)
}

// seal is the sender's seal for a message.
func seal(n *notary.Notary, m api.Msg) int {
	return n.Seal(m.From, bodyBytes(m))
}

// vote is a node's vote for a certificate's batch.
func vote(n *notary.Notary, kind, node int, c api.Cert) api.Vote {
	m := api.Msg{Kind: kind, From: node, View: c.View, Inst: c.Inst, Seq: c.Seq, Batch: c.Batch}
	return api.Vote{Node: node, Seal: seal(n, m)}
}

// certify gives a certificate the votes of nodes from this one on.
func certify(n *notary.Notary, kind, first, f int, c api.Cert) api.Cert {
	c.Votes = nil
	for i := range 2*f + 1 {
		c.Votes = append(c.Votes, vote(n, kind, first+i, c))
	}
	return c
}

// leave are the votes of nodes from this one on to leave the view.
func leave(n *notary.Notary, view, first, f int) []api.Vote {
	var l []api.Vote
	for i := range 2*f + 1 {
		m := api.Msg{Kind: api.Change, From: first + i, View: view}
		l = append(l, api.Vote{Node: first + i, Seal: seal(n, m)})
	}
	return l
}

// part is a node's view change to begin the view, with its seal.
func part(n *notary.Notary, view, from int, votes []api.Vote, l []api.Cert) api.Part {
	m := api.Msg{Kind: api.ViewChange, From: from, View: view, Votes: votes, Certs: l}
	return api.Part{From: from, Votes: votes, Certs: l, Seal: seal(n, m)}
}

// opens checks Open, and that it gives no seal.
func opens(t *testing.T, b []byte, f int, n *notary.Notary, want api.Msg, number int) {
	t.Helper()
	before := n.Len()
	m, got, err := msgs.Open(b, f, clients, n)
	if !same(m, want) || got != number || err != api.OK || n.Len() != before {
		t.Errorf("Open(%v, %d) = %v, %d, %d; want %v, %d, 0", b, f, m, got, err, want, number)
	}
}

// shut checks that Open opens nothing, and that it gives no seal.
func shut(t *testing.T, b []byte, f, most int, n *notary.Notary) {
	t.Helper()
	before := n.Len()
	m, got, err := msgs.Open(b, f, most, n)
	if !reflect.DeepEqual(m, api.Msg{}) || got != 0 || err != api.ErrForm || n.Len() != before {
		t.Errorf("Open(%.600v, %d, %d) = %.600v, %d, %d; want none, 0, %d", b, f, most, m, got, err, api.ErrForm)
	}
}

// P6.3: what Seal has sealed opens, for each kind; what was sealed is asked nothing but its form.
func TestOpen(t *testing.T) {
	for f := 1; f <= api.MaxF; f++ {
		n := notary.New()
		for range 200 {
			n.Seal(0, num(nil, n.Len()))
		}
		for kind := api.Request; kind <= api.Reply; kind++ {
			m := ofKind(kind, f)
			b, ok := msgs.Seal(m, n)
			if !ok {
				t.Fatalf("Seal(%v) is false", m)
			}
			opens(t, b, f, n, m, n.Len())
			shut(t, b, f, clients, notary.New())
			shut(t, b, 0, clients, n)
			shut(t, b, 5, clients, n)
			if len(m.Batch)+len(m.Certs) > 0 || kind == api.Reply {
				shut(t, b, f, 1, n)
			}
		}
	}
}

// P6.3: with any byte changed, missing or added, an envelope does not open.
func TestOpenBytes(t *testing.T) {
	n := notary.New()
	for kind := api.Request; kind <= api.Reply; kind++ {
		b, _ := msgs.Seal(ofKind(kind, 1), n)
		for i := range b {
			shut(t, b[:i], 1, clients, n)
			shut(t, slices.Delete(slices.Clone(b), i, i+1), 1, clients, n)
			for _, d := range []byte{1, 2, 64, 128, 255} {
				near := slices.Clone(b)
				near[i] += d
				shut(t, near, 1, clients, n)
			}
		}
		shut(t, append(slices.Clone(b), 0), 1, clients, n)
		shut(t, b[1:], 1, clients, n)
		shut(t, append([]byte{0}, b...), 1, clients, n)
	}
	shut(t, nil, 1, clients, n)
	shut(t, []byte{}, 1, clients, n)
	shut(t, []byte{1}, 1, clients, n)
	shut(t, make([]byte, 11), 1, clients, n)
}

// P6.3: the seal has to be the sender's for the body, and nobody else's, nor for anything else.
func TestOpenSeal(t *testing.T) {
	n := notary.New()
	m := ofKind(api.Prepare, 1)
	body := bodyBytes(m)
	other := m
	other.Seq--
	for _, number := range []int{0, 1, n.Seal(2, body), n.Seal(103, body), seal(n, other), n.Seal(3, nil), n.Seal(3, body[1:]), n.Len() + 1, top} {
		shut(t, append(num(nil, number), body...), 1, clients, n)
	}
	number := seal(n, m)
	opens(t, append(num(nil, number), body...), 1, n, m, number)
	shut(t, append([]byte{byte(number) + 128, 0}, body...), 1, clients, n)
	shut(t, append(num(nil, number+1<<40), body...), 1, clients, n)
	shut(t, append(num(nil, number), bodyBytes(other)...), 1, clients, n)
}

// P6.3: a message that has not its form does not open, though its sender sealed it.
func TestOpenForm(t *testing.T) {
	n := notary.New()
	for _, m := range []api.Msg{
		{}, {Kind: 11, From: 1}, {Kind: api.Change, From: 4}, {Kind: api.Change, View: 12}, {Kind: api.Change, Res: 1},
		{Kind: api.Propagate}, {Kind: api.Request, From: 100, Batch: batch(1)}, {Kind: api.Prepare}, {Kind: api.Reply, Inst: 2, Seq: 1},
	} {
		b, ok := msgs.Seal(m, n)
		if !ok {
			t.Fatalf("Seal(%v) is false", m)
		}
		shut(t, b, 1, clients, n)
	}
}

// stretched is a new view of its form whose body is exactly so many bytes.
func stretched(t *testing.T, size int) api.Msg {
	t.Helper()
	f := api.MaxF
	m := api.Msg{Kind: api.NewView, From: 1, View: 1, Parts: bareParts(f)}
	long := len(bodyBytes(m))
	for i := range m.Parts {
		for place := 0; place < 80 && long < size-300; place++ {
			c := cert(0, place/16, place%16+1, f)
			c.Batch = batch(4)
			m.Parts[i].Certs = append(m.Parts[i].Certs, c)
			long = len(bodyBytes(m))
		}
	}
	// What is left is made up by longer seals in place of short ones.
	for _, c := range m.Parts[0].Certs {
		for k := range c.Votes {
			long -= len(num(nil, c.Votes[k].Seal)) - 1
			c.Votes[k].Seal = 0
		}
	}
	for _, c := range m.Parts[0].Certs {
		for k := range c.Votes {
			for ; c.Votes[k].Seal < 1<<34 && long < size; long++ {
				c.Votes[k].Seal = max(1, c.Votes[k].Seal) * 128
			}
		}
	}
	if len(bodyBytes(m)) != size {
		t.Fatalf("%d bytes instead of %d", len(bodyBytes(m)), size)
	}
	return m
}

// P6.3: an envelope of as many bytes as there may be, and one more.
func TestOpenSize(t *testing.T) {
	for size := api.MaxBytes - 2; size <= api.MaxBytes+1; size++ {
		m := stretched(t, size)
		formed(t, m, api.MaxF, true)
		n := notary.New()
		b := append(num(nil, seal(n, m)), bodyBytes(m)...)
		if len(b) <= api.MaxBytes {
			if got, number, err := msgs.Open(b, api.MaxF, clients, n); !same(got, m) || number != 1 || err != api.OK {
				t.Errorf("an envelope of %d bytes: %d, %d", len(b), number, err)
			}
		} else if _, number, err := msgs.Open(b, api.MaxF, clients, n); number != 0 || err != api.ErrForm {
			t.Errorf("an envelope of %d bytes: %d, %d", len(b), number, err)
		}
	}
}

// P6.4: a ballot has what was certified, and nothing else of the certificate.
func TestBallot(t *testing.T) {
	for _, c := range []api.Cert{{}, cert(12, 1, 16, 1), {View: 3, Inst: 4, Seq: 5, Votes: quorum(2)}} {
		for _, kind := range []int{api.Prepare, api.Commit} {
			for _, node := range []int{0, 3, 12} {
				want := api.Msg{Kind: kind, From: node, View: c.View, Inst: c.Inst, Seq: c.Seq, Batch: c.Batch}
				if got := msgs.Ballot(kind, node, c); !same(got, want) {
					t.Errorf("Ballot(%d, %d, %v) = %v; want %v", kind, node, c, got, want)
				}
			}
		}
	}
}

// voted checks Voted, and that it gives no seal.
func voted(t *testing.T, kind int, c api.Cert, f int, n *notary.Notary, want bool) {
	t.Helper()
	before := n.Len()
	if got := msgs.Voted(kind, c, f, n); got != want || n.Len() != before {
		t.Errorf("Voted(%d, %v, %d) = %v with %d seals; want %v with %d", kind, c, f, got, n.Len(), want, before)
	}
}

// certified checks Certified, and that it gives no seal.
func certified(t *testing.T, kind int, c api.Cert, f, most int, n *notary.Notary, want bool) {
	t.Helper()
	before := n.Len()
	if got := msgs.Certified(kind, c, f, most, n); got != want || n.Len() != before {
		t.Errorf("Certified(%d, %v, %d, %d) = %v with %d seals; want %v with %d", kind, c, f, most, got, n.Len(), want, before)
	}
}

// spoilt are lists of votes that are near to l and none that decide.
func spoilt(l []api.Vote, f int) [][]api.Vote {
	bad := [][]api.Vote{nil, l[1:], l[:2*f], append(slices.Clone(l), api.Vote{Node: 3*f + 1, Seal: 1}), append(slices.Clone(l), l[2*f])}
	for i := range l {
		for _, other := range []int{0, 1, l[i].Seal + 1, l[i].Seal - 1, -l[i].Seal, l[i].Seal + 1<<40, top, math.MaxInt, math.MinInt, l[(i+1)%len(l)].Seal} {
			if other != l[i].Seal {
				near := slices.Clone(l)
				near[i].Seal = other
				bad = append(bad, near)
			}
		}
		near := slices.Clone(l)
		near[i], near[(i+1)%len(l)] = l[(i+1)%len(l)], l[i]
		bad = append(bad, near)
		near = slices.Clone(l)
		near[i] = l[(i+1)%len(l)]
		bad = append(bad, near)
		near = slices.Clone(l)
		near[i].Node = 3*f + 1
		bad = append(bad, near)
		near = slices.Clone(l)
		near[i].Node = -1
		bad = append(bad, near)
	}
	return bad
}

// P6.4: each vote is its node's seal of its ballot of this kind.
func TestVoted(t *testing.T) {
	for f := 1; f <= api.MaxF; f++ {
		n := notary.New()
		for size := range 5 {
			c := api.Cert{View: 12, Inst: f, Seq: 16, Batch: made(t, n, size)}
			for first := range f + 1 {
				for _, kind := range []int{api.Prepare, api.Commit} {
					c := certify(n, kind, first, f, c)
					voted(t, kind, c, f, n, true)
					voted(t, kind, c, f, notary.New(), false)
					for _, other := range []int{f - 1, f + 1, 0, 5, -1, math.MaxInt, math.MinInt} {
						voted(t, kind, c, other, n, false)
					}
				}
			}
			c = certify(n, api.Prepare, f, f, c)
			for _, l := range spoilt(c.Votes, f) {
				c.Votes = l
				voted(t, api.Prepare, c, f, n, false)
			}
		}
	}
}

// P6.4: votes are for exactly this kind, view, instance, sequence number and batch.
func TestVotedOther(t *testing.T) {
	n := notary.New()
	all := made(t, n, 4)
	c := certify(n, api.Prepare, 1, 1, api.Cert{View: 3, Inst: 1, Seq: 5, Batch: all[:3]})
	voted(t, api.Prepare, c, 1, n, true)
	for _, kind := range append(far(), 0, 3, api.Commit, 6, 7, api.Prepare+1<<40) {
		voted(t, kind, c, 1, n, false)
	}
	for place := range 3 {
		for _, d := range []int{1, -1, 1 << 40, -1 << 40, 1 << 32} {
			near := c
			*[]*int{&near.View, &near.Inst, &near.Seq}[place] += d
			voted(t, api.Prepare, near, 1, n, false)
		}
	}
	for _, l := range [][]api.Req{nil, all, all[1:], all[1:3], {all[1], all[0], all[2]}, {all[0], all[1], all[2], all[2]}} {
		near := c
		near.Batch = l
		voted(t, api.Prepare, near, 1, n, false)
	}
	near := c
	near.Batch = slices.Clone(c.Batch)
	near.Batch[1].Seal++
	voted(t, api.Prepare, near, 1, n, false)
}

// P6.4: Voted asks nothing of what was voted for; without a body no seal fits it.
func TestVotedAny(t *testing.T) {
	n := notary.New()
	c := certify(n, api.Commit, 0, 1, api.Cert{View: 77, Inst: 9, Seq: 1 << 30, Batch: []api.Req{{Client: 9}, {Client: 9}}})
	voted(t, api.Commit, c, 1, n, true)
	certified(t, api.Commit, c, 1, clients, n, false)
	c = api.Cert{View: -1}
	for node := range 3 {
		c.Votes = append(c.Votes, api.Vote{Node: node, Seal: n.Seal(node, nil)})
	}
	voted(t, api.Prepare, c, 1, n, false)
}

// P6.4: a certificate in each place that there is, and beside it.
func TestCertifiedPlace(t *testing.T) {
	for f := 1; f <= api.MaxF; f++ {
		n := notary.New()
		b := made(t, n, 1)
		for _, view := range []int{-1, 0, 1, 11, 12, 13, 1 << 32} {
			for inst := -1; inst <= f+1; inst++ {
				for _, seq := range []int{-1, 0, 1, 2, 15, 16, 17, 1 << 32} {
					c := api.Cert{View: view, Inst: inst, Seq: seq, Batch: b}
					if view < 0 || inst < 0 || seq < 0 {
						certified(t, api.Prepare, c, f, clients, n, false)
						continue
					}
					c = certify(n, api.Prepare, f, f, c)
					certified(t, api.Prepare, c, f, clients, n, view <= 12 && inst <= f && seq >= 1 && seq <= 16)
				}
			}
		}
	}
}

// P6.4: its batch is sealed, ordered and not too long; its votes are of the kind that is asked for.
func TestCertified(t *testing.T) {
	n := notary.New()
	all := made(t, n, 5)
	forged := slices.Clone(all[:2])
	forged[1].Op.Val++
	for f := 1; f <= api.MaxF; f++ {
		for _, x := range []struct {
			batch []api.Req
			want  bool
		}{
			{nil, true}, {all[:1], true}, {all[:4], true}, {all[1:], true}, {all, false},
			{[]api.Req{all[1], all[0]}, false}, {[]api.Req{all[0], all[0]}, false}, {forged, false},
		} {
			for _, kind := range []int{api.Prepare, api.Commit} {
				c := certify(n, kind, 0, f, api.Cert{View: 5, Inst: 1, Seq: 3, Batch: x.batch})
				certified(t, kind, c, f, clients, n, x.want)
				certified(t, kind, c, f, 1, n, x.want && !slices.ContainsFunc(x.batch, func(r api.Req) bool { return r.Client > 0 }))
				certified(t, api.Prepare+api.Commit-kind, c, f, clients, n, false)
				certified(t, kind, c, f+1, clients, n, false)
				certified(t, kind, c, f-1, clients, n, false)
				certified(t, kind, c, f, clients, notary.New(), false)
				for _, l := range spoilt(c.Votes, f) {
					c.Votes = l
					certified(t, kind, c, f, clients, n, false)
				}
			}
		}
	}
}

// changed checks Changed, and that it gives no seal.
func changed(t *testing.T, view int, l []api.Vote, f int, n *notary.Notary, want bool) {
	t.Helper()
	before := n.Len()
	if got := msgs.Changed(view, l, f, n); got != want || n.Len() != before {
		t.Errorf("Changed(%d, %v, %d) = %v with %d seals; want %v with %d", view, l, f, got, n.Len(), want, before)
	}
}

// P6.4: the votes of enough nodes to leave exactly this view, which another one has to follow.
func TestChanged(t *testing.T) {
	for f := 1; f <= api.MaxF; f++ {
		n := notary.New()
		for first := range f + 1 {
			for view := range 15 {
				l := leave(n, view, first, f)
				changed(t, view, l, f, n, view <= 11)
				for _, other := range append(far(), view-1, view+1, view+1<<40, view+1<<32) {
					changed(t, other, l, f, n, false)
				}
			}
		}
		l := leave(n, 4, f, f)
		changed(t, 4, l, f, notary.New(), false)
		changed(t, 4, l, f+1, n, false)
		changed(t, 4, l, f-1, n, false)
		for _, bad := range spoilt(l, f) {
			changed(t, 4, bad, f, n, false)
		}
	}
}

// P6.4: a view that can not be written has no votes, though nodes gave seals for no bytes.
func TestChangedNoBody(t *testing.T) {
	n := notary.New()
	var l []api.Vote
	for node := range 3 {
		l = append(l, api.Vote{Node: node, Seal: n.Seal(node, nil)})
	}
	for _, view := range append(far(), 0, 11) {
		changed(t, view, l, 1, n, false)
	}
}

// viewed checks Viewed, and that it gives no seal.
func viewed(t *testing.T, view int, p api.Part, f, most int, n *notary.Notary, want bool) {
	t.Helper()
	before := n.Len()
	if got := msgs.Viewed(view, p, f, most, n); got != want || n.Len() != before {
		t.Errorf("Viewed(%d, %v, %d, %d) = %v with %d seals; want %v with %d", view, p, f, most, got, n.Len(), want, before)
	}
}

// prepared are certificates of views before this one, the last of them of the null batch.
func prepared(t *testing.T, n *notary.Notary, view, f int) []api.Cert {
	t.Helper()
	all := made(t, n, 4)
	return []api.Cert{
		certify(n, api.Prepare, 0, f, api.Cert{View: view - 1, Inst: 0, Seq: 2, Batch: all}),
		certify(n, api.Prepare, 1, f, api.Cert{View: 0, Inst: 0, Seq: 3, Batch: all[:1]}),
		certify(n, api.Prepare, f, f, api.Cert{View: view / 2, Inst: f, Seq: 1}),
	}
}

// P6.4: what a node sealed, with votes to leave the view before and certificates of prepares, for each view that there is.
func TestViewed(t *testing.T) {
	for f := 1; f <= api.MaxF; f++ {
		n := notary.New()
		for view := 1; view <= 13; view++ {
			votes, all := leave(n, view-1, f, f), prepared(t, n, view, f)
			for _, l := range [][]api.Cert{nil, all[:1], all[1:], all} {
				for _, from := range []int{0, 1, 3 * f} {
					p := part(n, view, from, votes, l)
					viewed(t, view, p, f, clients, n, view <= 12)
					viewed(t, view, p, f, clients, notary.New(), false)
					for _, other := range append(far(), view-1, view+1, 0, 12, 13, view+1<<40) {
						if other != view {
							viewed(t, other, p, f, clients, n, false)
						}
					}
					for _, other := range []int{f - 1, f + 1, 0, 5} {
						viewed(t, view, p, other, clients, n, false)
					}
				}
			}
		}
		votes := leave(n, 0, 0, f)
		viewed(t, 1, part(n, 1, 3*f+1, votes, nil), f, clients, n, false)
		viewed(t, 0, part(n, 0, 1, votes, nil), f, clients, n, false)
	}
}

// P6.4: the seal is the sender's, for these votes and these certificates.
func TestViewedSeal(t *testing.T) {
	n := notary.New()
	votes, all := leave(n, 4, 0, 1), prepared(t, n, 5, 1)
	p := part(n, 5, 2, votes, all)
	viewed(t, 5, p, 1, clients, n, true)
	for _, seal := range append(far(), 0, 1, p.Seal-1, p.Seal+1, p.Seal+1<<40, -p.Seal, top) {
		near := p
		near.Seal = seal
		viewed(t, 5, near, 1, clients, n, false)
	}
	near := p
	near.From = 1
	viewed(t, 5, near, 1, clients, n, false)
	near = p
	near.Votes = leave(n, 4, 1, 1)
	viewed(t, 5, near, 1, clients, n, false)
	near = p
	near.Certs = all[1:]
	viewed(t, 5, near, 1, clients, n, false)
	viewed(t, 5, part(n, 5, 2, votes, all[1:]), 1, clients, n, true)
}

// P6.4: a node may seal what it likes: bad votes, certificates, or a bad form, and it is no view change.
func TestViewedSpoilt(t *testing.T) {
	for f := 1; f <= 2; f++ {
		n := notary.New()
		votes, all := leave(n, 4, f, f), prepared(t, n, 5, f)
		for _, l := range append(spoilt(votes, f), leave(n, 3, f, f), leave(n, 5, f, f)) {
			if bodyOf(api.Msg{Votes: l}) {
				viewed(t, 5, part(n, 5, 2, l, all), f, clients, n, false)
			}
		}
		for i := range all {
			try := func(c api.Cert) {
				t.Helper()
				l := slices.Clone(all)
				l[i] = c
				if bodyOf(api.Msg{Certs: l}) {
					viewed(t, 5, part(n, 5, 2, votes, l), f, clients, n, false)
				}
			}
			for _, bad := range spoilt(all[i].Votes, f) {
				c := all[i]
				c.Votes = bad
				try(c)
			}
			try(certify(n, api.Commit, f, f, all[i]))
			c := all[i]
			c.View = 5
			try(certify(n, api.Prepare, f, f, c))
			c = all[i]
			c.Batch = batch(1)
			try(certify(n, api.Prepare, f, f, c))
			c = all[i]
			c.Seq = 17
			try(certify(n, api.Prepare, f, f, c))
		}
		viewed(t, 5, part(n, 5, 2, votes, []api.Cert{all[1], all[0]}), f, clients, n, false)
		viewed(t, 5, part(n, 5, 2, votes, []api.Cert{all[0], all[0]}), f, clients, n, false)
		viewed(t, 5, part(n, 5, 2, votes, all), f, 1, n, false)
		viewed(t, 5, part(n, 5, 2, votes, all[2:]), f, 0, n, true)
	}
}

// bodyOf reports whether the message can be written.
func bodyOf(m api.Msg) bool {
	_, ok := msgs.Body(m)
	return ok
}

// P6.3, P6.4: what is handed in stays as it is, what lies behind it is not looked at, and each answer is new.
func TestCertsMemory(t *testing.T) {
	n := notary.New()
	m := ofKind(api.Prepare, 1)
	b, _ := msgs.Seal(m, n)
	whole := append(slices.Clone(b), 9, 9, 9)
	got, _, err := msgs.Open(whole[:len(b)], 1, clients, n)
	if !bytes.Equal(whole, append(slices.Clone(b), 9, 9, 9)) || err != api.OK {
		t.Errorf("Open changed %v to %v", b, whole)
	}
	clear(whole)
	if !same(got, m) {
		t.Errorf("a message shares its bytes: %v", got)
	}
	all := made(t, n, 4)
	held := slices.Clone(all)
	c := certify(n, api.Prepare, 0, 1, api.Cert{View: 1, Seq: 1, Batch: all[:2], Votes: nil})
	v := msgs.Ballot(api.Prepare, 1, c)
	clear(v.Batch[:cap(v.Batch)])
	if !slices.Equal(all, held) {
		t.Errorf("a ballot shares its batch: %v", all)
	}
	voted(t, api.Prepare, c, 1, n, true)
	certified(t, api.Prepare, c, 1, clients, n, true)
	p := part(n, 2, 3, leave(n, 1, 0, 1), []api.Cert{c})
	viewed(t, 2, p, 1, clients, n, true)
	if !slices.Equal(all, held) || !slices.Equal(c.Batch, held[:2]) {
		t.Errorf("a batch was changed: %v", all)
	}
}
