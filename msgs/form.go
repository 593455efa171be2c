package msgs

import (
	"psephos/api"
	"psephos/ballot"
	"psephos/reqs"
)

// maxRes bounds the size of a result: it is below it.
const maxRes = 1 << 39

// fields are fields of a message, a bit each.
type fields int

// The fields beside kind and sender, as they follow one another in a message.
const (
	hasView fields = 1 << iota
	hasInst
	hasSeq
	hasRes
	hasBatch
	hasVotes
	hasCerts
	hasParts
)

// Form reports whether m has the form of its kind, where f nodes may be faulty and there are so many clients.
func Form(m api.Msg, f, clients int) bool {
	if !within(f, 1, api.MaxF) || filled(m)&^named(m.Kind) != 0 {
		return false
	}
	if m.Kind == api.Request {
		return requestForm(m, clients)
	}
	return isNode(m.From, f) && nodeForm(m, f, clients)
}

// named returns the fields that messages of this kind may have.
func named(kind int) fields {
	switch kind {
	case api.Request, api.Propagate:
		return hasBatch
	case api.PrePrepare, api.Prepare, api.Commit:
		return hasView | hasInst | hasSeq | hasBatch
	case api.Change:
		return hasView
	case api.ViewChange:
		return hasView | hasVotes | hasCerts
	case api.NewView:
		return hasView | hasInst | hasParts
	case api.Proof:
		return hasCerts
	case api.Reply:
		return hasInst | hasSeq | hasRes
	}
	return 0
}

// filled returns the fields of m that are neither 0 nor empty.
func filled(m api.Msg) fields {
	var set fields
	for i, n := range [...]int{m.View, m.Inst, m.Seq, m.Res, len(m.Batch), len(m.Votes), len(m.Certs), len(m.Parts)} {
		if n != 0 {
			set |= hasView << i
		}
	}
	return set
}

// requestForm reports whether the one message that is a client's is so: its own request, alone.
func requestForm(m api.Msg, clients int) bool {
	// Counted from the first client on, so that no client, however great, is added into another party's number.
	return single(m.Batch, clients) && m.From >= api.FirstClient && m.From-api.FirstClient == m.Batch[0].Client
}

// nodeForm reports whether the named fields of a node's message are as its kind has them.
func nodeForm(m api.Msg, f, clients int) bool {
	switch m.Kind {
	case api.Propagate:
		return single(m.Batch, clients)
	case api.PrePrepare:
		return len(m.Batch) > 0 && voteForm(m, f, clients) && isPrimary(m, f)
	case api.Prepare, api.Commit:
		return voteForm(m, f, clients)
	case api.Change:
		return within(m.View, 0, api.MaxView-1)
	case api.ViewChange:
		return within(m.View, 1, api.MaxView) && changeForm(m.View, m.Votes, m.Certs, f, clients)
	case api.NewView:
		return within(m.View, 1, api.MaxView) && isPrimary(m, f) && partsForm(m.View, m.Parts, f, clients)
	case api.Proof:
		return len(m.Certs) == 1 && certForm(m.Certs[0], f, clients)
	case api.Reply:
		return m.Inst >= 0 && m.Inst < clients && within(m.Seq, 1, api.MaxTime) && within(m.Res, 1-maxRes, maxRes-1)
	}
	return false
}

// voteForm reports whether m has the fields of a vote, which are those of what is voted for.
func voteForm(m api.Msg, f, clients int) bool {
	return placed(m.View, m.Inst, m.Seq, f) && batchForm(m.Batch, clients)
}

// changeForm reports whether these can be the votes and the certificates with which a node begins the view.
func changeForm(view int, votes []api.Vote, certs []api.Cert, f, clients int) bool {
	if !votesForm(votes, f) {
		return false
	}
	for i, c := range certs {
		if c.View >= view || !certForm(c, f, clients) || i > 0 && !behind(certs[i-1], c) {
			return false
		}
	}
	return true
}

// behind reports whether b stands behind a: its place is another, by instance and then by sequence number.
func behind(a, b api.Cert) bool {
	return b.Inst > a.Inst || b.Inst == a.Inst && b.Seq > a.Seq
}

// partsForm reports whether l has exactly as many view changes as decide, each for this view, ascending by sender.
func partsForm(view int, l []api.Part, f, clients int) bool {
	if len(l) != ballot.Quorum(f) {
		return false
	}
	for i, p := range l {
		if !isNode(p.From, f) || !isSeal(p.Seal) || i > 0 && p.From <= l[i-1].From {
			return false
		}
		if !changeForm(view, p.Votes, p.Certs, f, clients) {
			return false
		}
	}
	return true
}

// certForm reports whether c has the form of a certificate, of any view.
func certForm(c api.Cert, f, clients int) bool {
	return placed(c.View, c.Inst, c.Seq, f) && batchForm(c.Batch, clients) && votesForm(c.Votes, f)
}

func votesForm(l []api.Vote, f int) bool {
	return ballot.Rising(l, f) && all(l, func(v api.Vote) bool { return isSeal(v.Seal) })
}

func batchForm(l []api.Req, clients int) bool {
	return len(l) <= api.MaxBatch && all(l, func(r api.Req) bool { return reqs.Valid(r, clients) })
}

// single reports whether l is one request.
func single(l []api.Req, clients int) bool {
	return len(l) == 1 && reqs.Valid(l[0], clients)
}

// placed reports whether there is such a place: a view, an instance and a sequence number.
func placed(view, inst, seq, f int) bool {
	return within(view, 0, api.MaxView) && within(inst, 0, f) && within(seq, 1, api.MaxSeq)
}

func isPrimary(m api.Msg, f int) bool {
	return m.From == ballot.Primary(f, m.View, m.Inst)
}

func isNode(n, f int) bool {
	return within(n, 0, ballot.Nodes(f)-1)
}

func isSeal(n int) bool {
	return within(n, 0, maxSeal)
}

func within(n, low, high int) bool {
	return low <= n && n <= high
}
