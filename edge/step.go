package edge

import (
	"escrow/api"
	"escrow/code"
	"escrow/local"
	"escrow/parts"
	"escrow/wire"
)

// Kinds of steps.
const (
	beginStep = 1 // cmd
	doStep    = 2 // op
	timeStep  = 3 // n
	takeStep  = 4 // msg
)

// step is a call that may change a state. Done again in the same states, the same steps lead to the same state.
type step struct {
	kind int
	cmd  api.Cmd
	op   api.Op
	n    int
	msg  []byte
}

// do tells the state after a step.
func (st step) do(s local.State) (local.State, api.Errno) {
	switch st.kind {
	case beginStep:
		return local.Begin(s, st.cmd)
	case doStep:
		return local.Do(s, st.op)
	case timeStep:
		return local.Time(s, st.n)
	case takeStep:
		return take(s, st.msg)
	}
	return s, api.ErrBad
}

// take tells the state after a message from a server.
func take(s local.State, b []byte) (local.State, api.Errno) {
	m, e := wire.Parse(b)
	switch {
	case e != api.OK:
		return s, e
	case m.Device != s.Device:
		return s, api.ErrArg
	case m.Kind == wire.MReply && m.Req == 0 && m.At != s.Epoch: // of a merge of an earlier epoch
		return s, api.ErrNone
	case m.Kind == wire.MReply:
		return local.Reply(s, m.Req, m.Reply)
	case m.Kind == wire.MDelta:
		return local.Delta(s, m.At, m.Next, m.Ops)
	case m.Kind == wire.MNo:
		return s, api.OK
	}
	return s, api.ErrKind
}

// bytes writes a step: its kind, and what local looks at.
func (st step) bytes() []byte {
	var p parts.Pen
	p.Int(st.kind)
	switch st.kind {
	case beginStep:
		p.Raw(wire.Cmd(st.cmd))
	case doStep:
		o := st.op
		p.Op(api.Op{Coll: o.Coll, Kind: o.Kind, Key: o.Key, Text: o.Text, N: o.N})
	case timeStep:
		p.Int(st.n)
	case takeStep:
		p.Raw(st.msg)
	}
	return p.Bytes()
}

// replay does the step of a record.
func replay(s local.State, record []byte) (local.State, api.Errno) {
	st, e := parseStep(record)
	if e != api.OK {
		return s, e
	}
	return st.do(s)
}

func parseStep(record []byte) (step, api.Errno) {
	if len(record) == 0 {
		return step{}, api.ErrBad
	}
	st := step{kind: code.New(record[:1]).Int()}
	rest := record[1:]
	r := code.New(rest)
	switch st.kind {
	case beginStep:
		c, e := wire.ParseCmd(rest)
		st.cmd = c
		return st, e
	case doStep:
		st.op = parts.Op(r)
	case timeStep:
		st.n = r.Int()
	case takeStep:
		st.msg = rest
		return st, api.OK
	}
	return st, r.End()
}
