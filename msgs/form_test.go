package msgs_test

import (
	"math"
	"slices"
	"strings"
	"testing"

	"psephos/api"
	"psephos/msgs"
)

// clients are how many there are in these tests, unless they say otherwise.
const clients = 2

// formed checks Form.
func formed(t *testing.T, m api.Msg, f int, want bool) {
	t.Helper()
	if got := msgs.Form(m, f, clients); got != want {
		t.Errorf("Form(%.400v, %d, %d) = %v; want %v", m, f, clients, got, want)
	}
}

// batch are valid requests, so many, in no order.
func batch(n int) []api.Req {
	var l []api.Req
	for i := range n {
		l = append(l, api.Req{Client: 1, Time: 9 - i, Op: api.Op{Kind: api.Put, Key: 63, Val: 1 - 1<<31}, Seal: top})
	}
	return l
}

// quorum are the votes of 2 f + 1 nodes, the greatest one among them.
func quorum(f int) []api.Vote {
	var l []api.Vote
	for i := range 2*f + 1 {
		l = append(l, api.Vote{Node: f + i, Seal: i * top / (2 * f)})
	}
	return l
}

// cert has the form of a certificate.
func cert(view, inst, seq, f int) api.Cert {
	return api.Cert{View: view, Inst: inst, Seq: seq, Batch: batch(seq % 5), Votes: quorum(f)}
}

// certs are ascending ones of views before this one, at the ends of the ranges.
func certs(view, f int) []api.Cert {
	return []api.Cert{cert(view-1, 0, 1, f), cert(0, 0, 16, f), cert(0, 1, 1, f), cert(view-1, f, 15, f), cert(0, f, 16, f)}
}

// viewParts are the view changes with which the view begins.
func viewParts(view, f int) []api.Part {
	var l []api.Part
	for i := range 2*f + 1 {
		l = append(l, api.Part{From: f + i, Votes: quorum(f), Seal: i * top / (2 * f)})
		if i%2 == 0 {
			l[i].Certs = certs(view, f)
		}
	}
	return l
}

// ofKind is a message of its kind's form, with each named field other than 0.
func ofKind(kind, f int) api.Msg {
	m := api.Msg{Kind: kind, From: 3 * f}
	switch kind {
	case api.Request:
		m.From, m.Batch = 101, batch(1)
	case api.Propagate:
		m.Batch = batch(1)
	case api.PrePrepare:
		m.From, m.View, m.Inst, m.Seq, m.Batch = 3, 2, 1, 16, batch(4)
	case api.Prepare, api.Commit:
		m.View, m.Inst, m.Seq, m.Batch = 12, 1, 16, batch(4)
	case api.Change:
		m.View = 11
	case api.ViewChange:
		m.View, m.Votes, m.Certs = 12, quorum(f), certs(12, f)
	case api.NewView:
		m.From, m.View, m.Inst, m.Parts = 2, 1, 1, viewParts(1, f)
	case api.Proof:
		m.Certs = []api.Cert{cert(12, f, 16, f)}
	case api.Reply:
		m.Inst, m.Seq, m.Res = 1, 1<<20, 1-half
	}
	return m
}

// P6.2: each kind has its form, with every f that there may be, and no other f has any.
func TestFormKinds(t *testing.T) {
	for f := 1; f <= api.MaxF; f++ {
		for kind := -2; kind <= 300; kind++ {
			formed(t, ofKind(kind, f), f, kind >= api.Request && kind <= api.Reply)
		}
		for _, kind := range append(far(), 1<<32+1, 256+2, 1<<16+6) {
			formed(t, api.Msg{Kind: kind, From: 1}, f, false)
		}
	}
	for kind := api.Request; kind <= api.Reply; kind++ {
		for _, f := range append(far(), 0, 5, 6, 257) {
			formed(t, ofKind(kind, 1), f, false)
			formed(t, ofKind(kind, 4), f, false)
		}
	}
}

// P6.2: a field that a kind does not name has to be 0 or empty.
func TestFormNamed(t *testing.T) {
	named := map[int]string{
		api.Request: "batch", api.Propagate: "batch", api.PrePrepare: "view inst seq batch", api.Prepare: "view inst seq batch",
		api.Commit: "view inst seq batch", api.Change: "view", api.ViewChange: "view votes certs", api.NewView: "view inst parts",
		api.Proof: "certs", api.Reply: "inst seq res",
	}
	for f := 1; f <= api.MaxF; f++ {
		for kind, has := range named {
			for place, field := range []string{"view", "inst", "seq", "res"} {
				for _, n := range append(far(), 1, 256, 1<<32) {
					m := ofKind(kind, f)
					if p := numbers(&m)[place+2]; *p == 0 {
						*p = n
						formed(t, m, f, false)
					} else if !slices.Contains(strings.Fields(has), field) {
						t.Errorf("kind %d has no %s", kind, field)
					}
				}
			}
			for _, field := range []string{"batch", "votes", "certs", "parts"} {
				m, want := ofKind(kind, f), slices.Contains(strings.Fields(has), field)
				fill(&m, field, f)
				formed(t, m, f, want)
				m = ofKind(kind, f)
				empty(&m, field)
				formed(t, m, f, true)
			}
		}
	}
}

// fill puts something into a list that has nothing.
func fill(m *api.Msg, field string, f int) {
	if field == "batch" && m.Batch == nil {
		m.Batch = batch(1)
	}
	if field == "votes" && m.Votes == nil {
		m.Votes = quorum(f)
	}
	if field == "certs" && m.Certs == nil {
		m.Certs = []api.Cert{cert(0, 0, 1, f)}
	}
	if field == "parts" && m.Parts == nil {
		m.Parts = viewParts(1, f)
	}
}

// empty makes a list that is nil an empty one.
func empty(m *api.Msg, field string) {
	if field == "batch" && m.Batch == nil {
		m.Batch = []api.Req{}
	}
	if field == "votes" && m.Votes == nil {
		m.Votes = []api.Vote{}
	}
	if field == "certs" && m.Certs == nil {
		m.Certs = []api.Cert{}
	}
	if field == "parts" && m.Parts == nil {
		m.Parts = []api.Part{}
	}
}

// P6.2: each number from the least to the greatest that its kind allows, and beyond.
func TestFormNumbers(t *testing.T) {
	for f := 1; f <= api.MaxF; f++ {
		for _, c := range []struct{ kind, place, low, high int }{
			{api.Propagate, 1, 0, 3 * f}, {api.Prepare, 1, 0, 3 * f}, {api.Commit, 1, 0, 3 * f}, {api.Change, 1, 0, 3 * f},
			{api.ViewChange, 1, 0, 3 * f}, {api.Proof, 1, 0, 3 * f}, {api.Reply, 1, 0, 3 * f}, {api.Request, 1, 101, 101},
			{api.Prepare, 2, 0, 12}, {api.Commit, 2, 0, 12}, {api.Change, 2, 0, 11}, {api.ViewChange, 2, 12, 12},
			{api.Prepare, 3, 0, f}, {api.Commit, 3, 0, f}, {api.Reply, 3, 0, clients - 1},
			{api.PrePrepare, 4, 1, 16}, {api.Prepare, 4, 1, 16}, {api.Commit, 4, 1, 16}, {api.Reply, 4, 1, 1 << 20},
			{api.Reply, 5, 1 - half, half - 1},
		} {
			m := ofKind(c.kind, f)
			p := numbers(&m)[c.place]
			for _, n := range append(far(), -half-1, -half, 1-half, half-1, half, half+1) {
				*p = n
				formed(t, m, f, c.low <= n && n <= c.high)
			}
			for n := -20; n <= 130; n++ {
				*p = n
				formed(t, m, f, c.low <= n && n <= c.high)
			}
			for d := -2; d <= 2; d++ {
				for _, n := range []int{c.low + d, c.high + d} {
					*p = n
					formed(t, m, f, c.low <= n && n <= c.high)
				}
			}
		}
	}
}

// P6.2: the primary alone sends a PrePrepare and a NewView, in each place of its instance.
func TestFormPrimary(t *testing.T) {
	for f := 1; f <= api.MaxF; f++ {
		for view := -2; view <= 14; view++ {
			for inst := -2; inst <= f+2; inst++ {
				for from := -2; from <= 3*f+3; from++ {
					is := from == (view+inst)%(3*f+1) && view >= 0 && view <= 12 && inst >= 0 && inst <= f
					m := api.Msg{Kind: api.PrePrepare, From: from, View: view, Inst: inst, Seq: 1, Batch: batch(1)}
					formed(t, m, f, is)
					m = api.Msg{Kind: api.NewView, From: from, View: view, Inst: inst, Parts: bareParts(f)}
					formed(t, m, f, is && view >= 1)
				}
			}
		}
		for _, n := range far() {
			m := ofKind(api.PrePrepare, f)
			m.View = n
			formed(t, m, f, false)
			m.View, m.Inst = 2, n
			formed(t, m, f, false)
			m.Inst, m.From = 1, n
			formed(t, m, f, false)
		}
	}
}

// bareParts are view changes without certificates, which any view can have.
func bareParts(f int) []api.Part {
	l := viewParts(1, f)
	for i := range l {
		l[i].Certs = nil
	}
	return l
}

// P6.2: a view change is for a view that another one is before.
func TestFormViewChange(t *testing.T) {
	for f := 1; f <= api.MaxF; f++ {
		for view := -2; view <= 14; view++ {
			formed(t, api.Msg{Kind: api.ViewChange, View: view, Votes: quorum(f)}, f, view >= 1 && view <= 12)
			for before := -2; before <= 14; before++ {
				is := view >= 1 && view <= 12 && before >= 0 && before < view
				m := api.Msg{Kind: api.ViewChange, View: view, Votes: quorum(f), Certs: []api.Cert{cert(before, f, 7, f)}}
				formed(t, m, f, is)
				m = ofKind(api.NewView, f)
				m.View, m.From, m.Parts = view, (view+14*(3*f+1)+1)%(3*f+1), bareParts(f)
				m.Parts[f].Certs = []api.Cert{cert(before, f, 7, f)}
				formed(t, m, f, is)
			}
		}
	}
}

// P6.2: how many requests each kind has, and that each of them is valid.
func TestFormBatch(t *testing.T) {
	for f := 1; f <= api.MaxF; f++ {
		for _, c := range []struct{ kind, low, high int }{
			{api.Request, 1, 1}, {api.Propagate, 1, 1}, {api.PrePrepare, 1, 4}, {api.Prepare, 0, 4}, {api.Commit, 0, 4},
		} {
			for n := range 7 {
				m := ofKind(c.kind, f)
				m.Batch = batch(n)
				formed(t, m, f, c.low <= n && n <= c.high)
				for i := range m.Batch {
					spoil(m.Batch, i, func() { formed(t, m, f, false) })
				}
			}
		}
		for n := range 7 {
			proof := ofKind(api.Proof, f)
			proof.Certs[0].Batch = batch(n)
			formed(t, proof, f, n <= 4)
			change := ofKind(api.ViewChange, f)
			change.Certs[2].Batch = batch(n)
			formed(t, change, f, n <= 4)
			begin := ofKind(api.NewView, f)
			begin.Parts[2].Certs[1].Batch = batch(n)
			formed(t, begin, f, n <= 4)
			for i := range n {
				spoil(proof.Certs[0].Batch, i, func() { formed(t, proof, f, false) })
				spoil(change.Certs[2].Batch, i, func() { formed(t, change, f, false) })
				spoil(begin.Parts[2].Certs[1].Batch, i, func() { formed(t, begin, f, false) })
			}
		}
	}
}

// spoil has each way in which a request is not valid looked at, and leaves it as it was.
func spoil(l []api.Req, i int, look func()) {
	held := l[i]
	for _, bad := range []func(*api.Req){
		func(r *api.Req) { r.Client = clients },
		func(r *api.Req) { r.Client = -1 },
		func(r *api.Req) { r.Time = 0 },
		func(r *api.Req) { r.Op.Kind = 6 },
		func(r *api.Req) { r.Op.Key = 64 },
		func(r *api.Req) { r.Op.Val = 1 << 31 },
		func(r *api.Req) { r.Seal = top + 1 },
		func(r *api.Req) { r.Seal = -1 },
	} {
		bad(&l[i])
		look()
		l[i] = held
	}
}

// P6.2: a batch need be in no order, nor have each request once: that is not its form.
func TestFormBatchOrder(t *testing.T) {
	for kind := api.PrePrepare; kind <= api.Commit; kind++ {
		m := ofKind(kind, 1)
		formed(t, m, 1, true)
		slices.Reverse(m.Batch)
		formed(t, m, 1, true)
		m.Batch[1] = m.Batch[0]
		formed(t, m, 1, true)
	}
}

// P6.2: a request is its own client's, counted from the first client on.
func TestFormRequest(t *testing.T) {
	for _, most := range []int{-1, 0, 1, 2, 3, 4, 5, math.MaxInt} {
		for client := -2; client <= 6; client++ {
			for from := -6; from <= 110; from++ {
				m := ofKind(api.Request, 1)
				m.From, m.Batch[0].Client = from, client
				want := client >= 0 && client < most && from == 100+client
				if got := msgs.Form(m, 1, most); got != want {
					t.Errorf("Form of client %d's request from %d with %d clients = %v; want %v", client, from, most, got, want)
				}
			}
		}
	}
	m := ofKind(api.Request, 1)
	for _, client := range []int{math.MaxInt - 1, math.MaxInt - 99, math.MaxInt - 100} {
		m.Batch[0].Client = client
		m.From = client + api.FirstClient
		if got := msgs.Form(m, 1, math.MaxInt); got != (client == math.MaxInt-100) {
			t.Errorf("Form of client %d's request from %d = %v", client, m.From, got)
		}
	}
}

// P6.2: a reply is to one of the clients that there are.
func TestFormReply(t *testing.T) {
	for _, most := range append(far(), 0, 1, 2, 3, 4, 5) {
		for client := -2; client <= 6; client++ {
			m := ofKind(api.Reply, 1)
			m.Inst = client
			if got, want := msgs.Form(m, 1, most), client >= 0 && client < most; got != want {
				t.Errorf("Form of a reply to client %d with %d clients = %v; want %v", client, most, got, want)
			}
		}
	}
}

// voters are messages with votes, and where their votes are.
func voters(f int) ([]*api.Msg, []*[]api.Vote) {
	change, begin, proof := ofKind(api.ViewChange, f), ofKind(api.NewView, f), ofKind(api.Proof, f)
	return []*api.Msg{&change, &change, &begin, &begin, &proof},
		[]*[]api.Vote{&change.Votes, &change.Certs[1].Votes, &begin.Parts[1].Votes, &begin.Parts[2].Certs[3].Votes, &proof.Certs[0].Votes}
}

// P6.2: votes are of exactly so many nodes, ascending, with seals that can be written.
func TestFormVotes(t *testing.T) {
	for f := 1; f <= api.MaxF; f++ {
		all, places := voters(f)
		for i, m := range all {
			held := slices.Clone(*places[i])
			try := func(l []api.Vote, want bool) {
				t.Helper()
				*places[i] = l
				formed(t, *m, f, want)
				*places[i] = held
			}
			try(held, true)
			try(nil, false)
			try(held[1:], false)
			try(append([]api.Vote{{Node: 0, Seal: 1}}, held...), false)
			for k := range held {
				for _, seal := range append(far(), 0, 1, top) {
					l := slices.Clone(held)
					l[k].Seal = seal
					try(l, seal >= 0 && seal <= top)
				}
				for _, node := range append(far(), 3*f+1, 3*f+2, 100) {
					l := slices.Clone(held)
					l[k].Node = node
					try(l, false)
				}
				if k > 0 {
					l := slices.Clone(held)
					l[k].Node = l[k-1].Node
					try(l, false)
					l[k], l[k-1] = held[k-1], held[k]
					try(l, false)
				}
			}
		}
	}
}

// P6.2: certificates are ascending by instance and then by sequence number; their views say nothing of it.
func TestFormCerts(t *testing.T) {
	for f := 1; f <= api.MaxF; f++ {
		for a := range (f + 1) * 16 {
			for b := range (f + 1) * 16 {
				m := ofKind(api.ViewChange, f)
				m.Certs = []api.Cert{cert(7, a/16, a%16+1, f), cert(a%12, b/16, b%16+1, f)}
				formed(t, m, f, a < b)
			}
		}
		m := ofKind(api.NewView, f)
		l := m.Parts[2].Certs
		for i := range l {
			for k := range i {
				l[i], l[k] = l[k], l[i]
				formed(t, m, f, false)
				l[i], l[k] = l[k], l[i]
			}
			m.Parts[2].Certs = slices.Insert(slices.Clone(l), i, l[i])
			formed(t, m, f, false)
			m.Parts[2].Certs = slices.Delete(slices.Clone(l), i, i+1)
			formed(t, m, f, true)
			m.Parts[2].Certs = nil
			formed(t, m, f, true)
			m.Parts[2].Certs = l
		}
	}
}

// P6.2: each number of a certificate, wherever it stands.
func TestFormCertNumbers(t *testing.T) {
	for f := 1; f <= api.MaxF; f++ {
		for kind := api.ViewChange; kind <= api.Proof; kind++ {
			m := ofKind(kind, f)
			c := &api.Cert{}
			most := 12
			switch kind {
			case api.ViewChange:
				m.Certs = m.Certs[:1]
				c, most = &m.Certs[0], 11
			case api.NewView:
				m.Parts[0].Certs = m.Parts[0].Certs[:1]
				c, most = &m.Parts[0].Certs[0], 0
			case api.Proof:
				c = &m.Certs[0]
			}
			for place, p := range []*int{&c.View, &c.Inst, &c.Seq} {
				low, high := []int{0, 0, 1}[place], []int{most, f, 16}[place]
				held := *p
				for _, n := range far() {
					*p = n
					formed(t, m, f, false)
				}
				for n := -3; n <= 40; n++ {
					*p = n
					formed(t, m, f, low <= n && n <= high)
				}
				*p = held
			}
		}
	}
}

// P6.2: a proof is of one certificate.
func TestFormProof(t *testing.T) {
	for f := 1; f <= api.MaxF; f++ {
		for n := range 4 {
			m := api.Msg{Kind: api.Proof, Certs: certs(1, f)[:n]}
			formed(t, m, f, n == 1)
		}
	}
}

// P6.2: a new view is of exactly so many view changes, ascending by sender, with seals that can be written.
func TestFormParts(t *testing.T) {
	for f := 1; f <= api.MaxF; f++ {
		m := ofKind(api.NewView, f)
		held := viewParts(1, f)
		try := func(l []api.Part, want bool) {
			t.Helper()
			m.Parts = l
			formed(t, m, f, want)
		}
		try(held, true)
		try(nil, false)
		try(held[1:], false)
		try(held[:2*f], false)
		try(append([]api.Part{{From: 0, Votes: quorum(f), Seal: 1}}, held...), false)
		for i := range held {
			for _, seal := range append(far(), 0, 1, top) {
				l := slices.Clone(held)
				l[i].Seal = seal
				try(l, seal >= 0 && seal <= top)
			}
			for _, from := range append(far(), 3*f+1, 3*f+2, 100) {
				l := slices.Clone(held)
				l[i].From = from
				try(l, false)
			}
			if i > 0 {
				l := slices.Clone(held)
				l[i].From = l[i-1].From
				try(l, false)
				l[i], l[i-1] = held[i-1], held[i]
				try(l, false)
			}
		}
	}
}
