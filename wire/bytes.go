package wire

import (
	"escrow/api"
	"escrow/code"
	"escrow/ops"
	"escrow/parts"
	"escrow/plain"
)

// writer writes what a message is made of.
type writer struct{ parts.Pen }

func (w *writer) cmd(c api.Cmd) {
	w.Int(c.Kind, c.Device, c.Epoch, c.Req, c.N, len(c.Wants))
	for _, x := range c.Wants {
		w.Text(x.Key)
		w.Int(x.Up, x.Down, x.Ids)
	}
	w.ops(c.Ops)
}

func (w *writer) ops(l []api.Op) {
	w.Int(len(l))
	for _, o := range l {
		w.Raw(ops.Bytes(nil, o))
	}
}

func (w *writer) reply(r api.Reply) {
	w.Int(int(r.Err), r.N)
	w.Lease(r.Lease)
}

func (w *writer) msg(m Msg) {
	w.Int(m.Kind, m.Device)
	switch m.Kind {
	case MCmd:
		w.cmd(m.Cmd)
	case MReply:
		w.Int(m.Req, m.At)
		w.reply(m.Reply)
	case MAsk:
		w.Int(m.Ver, m.At)
		w.Flag(m.Subs...)
	case MDelta:
		w.Int(m.At, m.Next)
		w.ops(m.Ops)
	case MNo:
		w.Int(m.Req, int(m.Err))
	}
}

// reader reads what a message is made of.
type reader struct{ *code.Reader }

func (r reader) cmd() api.Cmd {
	var c api.Cmd
	parts.Fill(r.Int, &c.Kind, &c.Device, &c.Epoch, &c.Req, &c.N)
	for range parts.Count(r.Reader, maxItems) {
		x := api.Want{Key: r.Text()}
		parts.Fill(r.Int, &x.Up, &x.Down, &x.Ids)
		c.Wants = append(c.Wants, x)
	}
	c.Ops = r.ops()
	return c
}

func (r reader) ops() []api.Op {
	var l []api.Op
	for range parts.Count(r.Reader, maxItems) {
		l = append(l, parts.Op(r.Reader))
	}
	return l
}

// within reads a number; one that is not from lo to hi is an error.
func (r reader) within(lo, hi int, e api.Errno) int {
	n := r.Int()
	if !plain.Within(n, lo, hi) {
		r.Fail(e)
	}
	return n
}

func (r reader) errno() api.Errno {
	return api.Errno(r.within(int(api.OK), int(api.ErrGone), api.ErrBad))
}

func (r reader) reply() api.Reply {
	return api.Reply{Err: r.errno(), N: r.Int(), Lease: parts.Lease(r.Reader)}
}

func (r reader) subs() []bool {
	l := make([]bool, api.MaxColls)
	for i := range l {
		l[i] = r.within(0, 1, api.ErrBad) == 1
	}
	return l
}

func (r reader) msg() Msg {
	m := Msg{Kind: r.within(MCmd, MNo, api.ErrKind), Device: r.Int()}
	switch m.Kind {
	case MCmd:
		m.Cmd = r.cmd()
	case MReply:
		parts.Fill(r.Int, &m.Req, &m.At)
		m.Reply = r.reply()
	case MAsk:
		parts.Fill(r.Int, &m.Ver, &m.At)
		m.Subs = r.subs()
	case MDelta:
		parts.Fill(r.Int, &m.At, &m.Next)
		m.Ops = r.ops()
	case MNo:
		m.Req = r.Int()
		m.Err = r.errno()
	}
	return m
}
