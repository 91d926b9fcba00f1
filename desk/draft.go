package desk

import (
	"slices"

	"escrow/api"
	"escrow/coll"
	"escrow/ledger"
	"escrow/ops"
	"escrow/plain"
)

const (
	maxEpoch = 1 << 20
	maxMerge = 20 // operations of one command
)

// draft is a desk that is being changed. It shares memory with the desk it comes from: lists are replaced, not written to.
type draft struct{ api.Desk }

// steps tells what each kind of command does.
func (t *draft) steps() map[int]func(api.Cmd) api.Reply {
	return map[int]func(api.Cmd) api.Reply{
		api.CRegister: t.register,
		api.CCheckout: t.checkout,
		api.CMerge:    t.merge,
		api.CClose:    t.close,
		api.CReclaim:  t.reclaim,
		api.CLose:     t.lose,
		api.CTime:     t.time,
	}
}

// fence tells whether the epoch that a command names is the device's, and not lost.
func (t *draft) fence(c api.Cmd) api.Errno {
	epoch := t.Dev[c.Device].Epoch
	switch {
	case epoch == 0, c.Epoch > epoch:
		return api.ErrNone
	case c.Epoch < epoch, t.lost(c.Device, c.Epoch):
		return api.ErrFenced
	}
	return api.OK
}

func (t *draft) lost(device, epoch int) bool {
	return slices.ContainsFunc(t.Lost, func(e api.Entry) bool { return e.Device == device && e.Epoch == epoch })
}

// included counts the operations of an epoch in the log.
func (t *draft) included(device, epoch int) int {
	n := 0
	for _, o := range t.Log {
		if o.Dot.Device == device && o.Dot.Epoch == epoch {
			n++
		}
	}
	return n
}

func (t *draft) time(c api.Cmd) api.Reply {
	if !plain.Within(c.N, 0, api.MaxNumber) {
		return failed(api.ErrArg)
	}
	t.Now = max(t.Now, c.N)
	return api.Reply{}
}

func (t *draft) register(c api.Cmd) api.Reply {
	epoch := t.Dev[c.Device].Epoch
	switch {
	case epoch > 0 && !t.lost(c.Device, epoch):
		return failed(api.ErrIs)
	case epoch >= maxEpoch:
		return failed(api.ErrOver)
	}
	t.Dev[c.Device].Epoch = epoch + 1
	return api.Reply{N: epoch + 1}
}

func (t *draft) checkout(c api.Cmd) api.Reply {
	if !plain.Within(c.N, 1, api.MaxLease) {
		return failed(api.ErrArg)
	}
	b, lease, e := ledger.Grant(t.Book, c.Device, c.Epoch, t.Now+c.N, c.Wants)
	if e != api.OK {
		return failed(e)
	}
	t.Book = b
	return api.Reply{Lease: lease}
}

func (t *draft) merge(c api.Cmd) api.Reply {
	if len(c.Ops) > maxMerge {
		return failed(api.ErrMany)
	}
	t.Log = slices.Clip(t.Log) // so that appending moves it away from the desk that was passed
	n := t.included(c.Device, c.Epoch)
	for _, o := range c.Ops {
		e := ops.Check(o)
		switch {
		case e != api.OK:
			return failed(e)
		case o.Dot.Device != c.Device, o.Dot.Epoch != c.Epoch:
			return failed(api.ErrArg)
		case o.Dot.Seq <= n:
			continue
		case o.Dot.Seq > n+1:
			return failed(api.ErrGap)
		}
		if e := t.include(o); e != api.OK {
			return failed(e)
		}
		n++
	}
	return api.Reply{N: n}
}

// include spends what an operation needs, and applies it.
func (t *draft) include(o api.Op) api.Errno {
	if o.Kind == api.KCount || o.Kind == api.KBind {
		if e := t.spend(o); e != api.OK {
			return e
		}
	}
	if len(t.Log) >= api.MaxOps {
		return api.ErrOver
	}
	t.Colls[o.Coll], _ = coll.Apply(t.Colls[o.Coll], o) // of a sound desk, the next operation of an epoch is new to each collection
	t.Log = append(t.Log, o)
	return api.OK
}

func (t *draft) spend(o api.Op) api.Errno {
	lease, ok := ledger.Find(t.Book, o.Dot.Device, o.Dot.Epoch)
	if !ok {
		return api.ErrRights
	}
	lease, e := ledger.Spend(lease, o)
	if e != api.OK {
		return e
	}
	t.Book, e = ledger.Put(t.Book, lease)
	return e
}

func (t *draft) close(c api.Cmd) api.Reply {
	lease, ok := ledger.Find(t.Book, c.Device, c.Epoch)
	switch {
	case !ok:
		return failed(api.ErrNone)
	case !plain.Within(c.N, t.included(c.Device, c.Epoch), maxSeq):
		return failed(api.ErrArg)
	}
	lease.Last = c.N
	t.Book, _ = ledger.Put(t.Book, lease)
	return api.Reply{}
}

func (t *draft) reclaim(c api.Cmd) api.Reply {
	epoch := t.Dev[c.Device].Epoch
	lease, ok := ledger.Find(t.Book, c.Device, epoch)
	switch {
	case !ok:
		return failed(api.ErrNone)
	case lease.Last == -1:
		return failed(api.ErrOpen)
	case t.included(c.Device, epoch) < lease.Last:
		return failed(api.ErrGap)
	case t.Now < lease.Until+api.Margin:
		return failed(api.ErrEarly)
	}
	t.Book, _ = ledger.Free(t.Book, c.Device, epoch)
	return api.Reply{}
}

func (t *draft) lose(c api.Cmd) api.Reply {
	epoch := t.Dev[c.Device].Epoch
	switch {
	case epoch == 0:
		return failed(api.ErrNone)
	case t.lost(c.Device, epoch):
		return failed(api.ErrIs)
	}
	t.Book, _ = ledger.Free(t.Book, c.Device, epoch) // ErrNone: it had no lease
	n := t.included(c.Device, epoch)
	t.Lost = append(slices.Clip(t.Lost), api.Entry{Device: c.Device, Epoch: epoch, Seq: n})
	return api.Reply{N: n}
}
