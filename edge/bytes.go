package edge

import (
	"escrow/api"
	"escrow/code"
	"escrow/local"
	"escrow/parts"
	"escrow/wire"
)

// stateBytes writes a whole state.
func stateBytes(s local.State) []byte {
	p := &parts.Pen{}
	p.Int(s.Device, s.Epoch, s.Ends, s.Seq, s.Sent, s.At, s.Ver, s.Req, s.Asked, s.Now)
	p.Flag(s.Fenced)
	p.Flag(s.Subs...)
	p.Lease(s.Lease)
	p.Text(string(wire.Cmd(s.Cmd)))
	list(p, s.Pending, p.Op)
	for _, c := range s.Colls {
		list(p, c.V, func(x api.Entry) { p.Dot(api.Dot(x)) })
		list(p, c.Regs, func(x api.Reg) {
			p.Text(x.Key, x.Text)
			p.Int(x.Ver, x.Time)
			p.Dot(x.Dot)
		})
		list(p, c.Elems, func(x api.Elem) {
			p.Text(x.Key, x.Text)
			p.Int(x.Ver)
			p.Dot(x.Dot)
		})
		list(p, c.Gone, p.Dot)
		list(p, c.Sums, func(x api.Sum) {
			p.Text(x.Key)
			p.Int(x.N)
		})
		list(p, c.Binds, func(x api.Bind) {
			p.Int(x.Id)
			p.Text(x.Text)
			p.Int(x.Ver)
			p.Dot(x.Dot)
		})
	}
	return p.Bytes()
}

// list writes how many elements there are, and each of them.
func list[T any](p *parts.Pen, l []T, write func(T)) {
	p.Int(len(l))
	for _, x := range l {
		write(x)
	}
}

// reader reads a state.
type reader struct {
	*code.Reader
	most int // elements of a list: there are no more than bytes
}

func parseState(b []byte) (local.State, api.Errno) {
	r := reader{code.New(b), len(b)}
	var s local.State
	parts.Fill(r.Int, &s.Device, &s.Epoch, &s.Ends, &s.Seq, &s.Sent, &s.At, &s.Ver, &s.Req, &s.Asked, &s.Now)
	s.Fenced = r.flag()
	for range api.MaxColls {
		s.Subs = append(s.Subs, r.flag())
	}
	s.Lease = parts.Lease(r.Reader)
	cmd, wrong := wire.ParseCmd([]byte(r.Text()))
	r.Fail(wrong)
	s.Cmd = cmd
	s.Pending = items(r, func() api.Op { return parts.Op(r.Reader) })
	for i := range s.Colls {
		s.Colls[i] = r.coll()
	}
	if e := r.End(); e != api.OK {
		return local.State{}, e
	}
	return s, api.OK
}

func (r reader) flag() bool { return r.Int() == 1 }

func (r reader) dot() api.Dot { return parts.Dot(r.Reader) }

func (r reader) coll() api.Coll {
	return api.Coll{
		V:     items(r, r.entry),
		Regs:  items(r, r.reg),
		Elems: items(r, r.elem),
		Gone:  items(r, r.dot),
		Sums:  items(r, r.sum),
		Binds: items(r, r.bind),
	}
}

func (r reader) entry() api.Entry { return api.Entry(r.dot()) }

func (r reader) reg() api.Reg {
	return api.Reg{Key: r.Text(), Text: r.Text(), Ver: r.Int(), Time: r.Int(), Dot: r.dot()}
}

func (r reader) elem() api.Elem {
	return api.Elem{Key: r.Text(), Text: r.Text(), Ver: r.Int(), Dot: r.dot()}
}

func (r reader) sum() api.Sum { return api.Sum{Key: r.Text(), N: r.Int()} }

func (r reader) bind() api.Bind {
	return api.Bind{Id: r.Int(), Text: r.Text(), Ver: r.Int(), Dot: r.dot()}
}

// items reads a list.
func items[T any](r reader, read func() T) []T {
	var l []T
	for range parts.Count(r.Reader, r.most) {
		l = append(l, read())
	}
	return l
}
