package local

import (
	"slices"

	"escrow/api"
	"escrow/coll"
	"escrow/ledger"
	"escrow/ops"
	"escrow/plain"
)

// draft is a state that is being changed. It shares memory with the state it comes from: lists are replaced, not written to.
type draft struct{ State }

func (t *draft) hasLease() bool { return t.Lease.Epoch != 0 }

func (t *draft) isOpen() bool { return t.Cmd.Kind != 0 }

func (t *draft) begin(c api.Cmd) api.Errno {
	if e := t.mayBegin(c); e != api.OK {
		return e
	}
	t.Req++
	t.Asked = t.Now
	t.Cmd = api.Cmd{Kind: c.Kind, Device: t.Device, Req: t.Req}
	switch c.Kind {
	case api.CCheckout:
		t.Cmd.Epoch, t.Cmd.N, t.Cmd.Wants = t.Epoch, c.N, c.Wants
	case api.CClose:
		t.Cmd.Epoch, t.Cmd.N = t.Epoch, t.Seq
		t.Lease.Last = t.Seq
	}
	return api.OK
}

// mayBegin tells why a request may not be opened.
func (t *draft) mayBegin(c api.Cmd) api.Errno {
	register := c.Kind == api.CRegister
	switch {
	case !register && c.Kind != api.CCheckout && c.Kind != api.CClose:
		return api.ErrKind
	case t.isOpen():
		return api.ErrIs
	case t.Req >= maxReq:
		return api.ErrOver
	case register && t.Epoch != 0 && !t.Fenced:
		return api.ErrIs
	case register:
		return api.OK
	case t.Epoch == 0:
		return api.ErrNone
	case t.Fenced:
		return api.ErrFenced
	case c.Kind == api.CClose && !t.hasLease():
		return api.ErrNone
	case c.Kind == api.CClose:
		return api.OK
	case t.hasLease():
		return api.ErrOpen
	case !plain.Within(c.N, 1, api.MaxLease), len(c.Wants) > maxWants, slices.ContainsFunc(c.Wants, isWrong):
		return api.ErrArg
	}
	return api.OK
}

func isWrong(w api.Want) bool { return !plain.IsText(w.Key) }

// merged processes the answer to a merge.
func (t *draft) merged(r api.Reply) api.Errno {
	switch {
	case t.Epoch == 0:
		return api.ErrNone
	case r.Err == api.ErrFenced:
		t.Fenced = true
	case r.Err == api.OK:
		if plain.Within(r.N, t.Sent, t.Seq) {
			t.Sent = r.N
		}
		t.forget(t.isOver)
	}
	return api.OK
}

// isOver tells whether an operation is included, and will not be read again.
func (t *draft) isOver(o api.Op) bool {
	return o.Dot.Seq <= t.Sent && !plain.Subscribed(t.Subs, o.Coll)
}

// forget removes operations from what is pending.
func (t *draft) forget(over func(api.Op) bool) {
	t.Pending = slices.DeleteFunc(plain.List(t.Pending), over)
}

// granted tells what each kind of request does when it is answered without an error.
func granted() map[int]func(*draft, api.Cmd, api.Reply) {
	return map[int]func(*draft, api.Cmd, api.Reply){
		api.CRegister: (*draft).registered,
		api.CCheckout: (*draft).leased,
		api.CClose:    (*draft).closed,
	}
}

// answered processes the answer to the open request.
func (t *draft) answered(req int, r api.Reply) api.Errno {
	if !t.isOpen() || req != t.Req {
		return api.ErrNone
	}
	c := t.Cmd
	t.Cmd = api.Cmd{}
	switch {
	case r.Err == api.ErrFenced:
		t.Fenced = true
	case r.Err != api.OK:
		if c.Kind == api.CClose {
			t.Lease.Last = -1
		}
	default:
		if take, ok := granted()[c.Kind]; ok {
			take(t, c, r)
		}
	}
	return api.OK
}

func (t *draft) registered(_ api.Cmd, r api.Reply) {
	t.Epoch, t.Seq, t.Sent, t.Ends = r.N, 0, 0, 0
	t.Pending, t.Lease, t.Fenced = nil, api.Lease{}, false
}

func (t *draft) leased(c api.Cmd, r api.Reply) {
	t.Lease, t.Ends = r.Lease, t.Asked+c.N
}

func (t *draft) closed(api.Cmd, api.Reply) {
	t.Lease, t.Ends = api.Lease{}, 0
}

// do does an operation that is as far from complete as callers pass it.
func (t *draft) do(o api.Op) api.Errno {
	switch {
	case t.Epoch == 0:
		return api.ErrNone
	case t.Fenced:
		return api.ErrFenced
	case len(t.Pending) >= maxPending:
		return api.ErrFull
	case t.Seq >= maxSeq:
		return api.ErrOver
	}
	o = t.complete(o)
	if e := ops.Check(o); e != api.OK {
		return e
	}
	if o.Kind == api.KCount || o.Kind == api.KBind {
		if e := t.spend(o); e != api.OK {
			return e
		}
	}
	t.Seq++
	n := len(t.Pending)
	t.Pending = append(t.Pending[:n:n], o)
	return api.OK
}

// complete fills in what callers do not say of an operation.
func (t *draft) complete(o api.Op) api.Op {
	out := api.Op{
		Dot:  api.Dot{Device: t.Device, Epoch: t.Epoch, Seq: t.Seq + 1},
		Coll: o.Coll, Ver: t.Ver, Kind: o.Kind, Key: o.Key, Text: o.Text, N: o.N, Time: t.Now,
	}
	if o.Kind == api.KRem {
		dots := coll.Dots(View(t.State, o.Coll), o.Key, o.Text)
		n := min(len(dots), api.MaxDots)
		out.Dots = dots[:n:n]
	}
	return out
}

func (t *draft) spend(o api.Op) api.Errno {
	switch {
	case !t.hasLease():
		return api.ErrRights
	case t.Now >= t.Ends, t.Lease.Last != -1:
		return api.ErrExpired
	}
	lease, e := ledger.Spend(t.Lease, o)
	if e == api.OK {
		t.Lease = lease
	}
	return e
}

// delta applies operations of a server's log.
func (t *draft) delta(at, next int, l []api.Op) api.Errno {
	switch {
	case at != t.At:
		return api.ErrNone
	case next < at:
		return api.ErrArg
	}
	read := map[api.Dot]int{}
	for _, o := range l {
		if e := t.apply(o); e != api.OK {
			return e
		}
		read[o.Dot] = o.Dot.Seq
	}
	t.At = next
	isRead := func(o api.Op) bool {
		_, ok := read[o.Dot]
		return ok
	}
	for _, o := range t.Pending {
		if isRead(o) {
			t.Sent = max(t.Sent, o.Dot.Seq)
		}
	}
	t.forget(isRead)
	return api.OK
}

// apply applies an operation of a server to its collection.
func (t *draft) apply(o api.Op) api.Errno {
	switch {
	case !plain.Subscribed(t.Subs, o.Coll):
		return api.ErrArg
	case o.Ver > t.Ver:
		return api.ErrNew
	}
	c, e := coll.Apply(t.Colls[o.Coll], o)
	if e == api.OK {
		t.Colls[o.Coll] = c
	}
	return e
}

func (t *draft) time(n int) api.Errno {
	switch {
	case !plain.Within(n, 0, maxStep):
		return api.ErrArg
	case t.Now+n > api.MaxNumber:
		return api.ErrOver
	}
	t.Now += n
	return api.OK
}
