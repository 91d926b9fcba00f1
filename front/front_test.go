package front_test

import (
	"reflect"
	"testing"

	"escrow/api"
	"escrow/desk"
	"escrow/frames"
	"escrow/front"
	"escrow/group"
	"escrow/replica"
	"escrow/wire"
)

func open3(t *testing.T) *group.Group {
	t.Helper()
	g, e := group.New([]api.Counter{{Key: "x", Hi: 20, Start: 10}}, 50)
	if e != api.OK {
		t.Fatal(e)
	}
	g.Calm(60)
	return g
}

func bytesOf(t *testing.T, m wire.Msg) []byte {
	t.Helper()
	b, e := wire.Bytes(m)
	if e != api.OK {
		t.Fatal(e)
	}
	return b
}

// answers holds the answer to a message against what is wanted.
func answers(t *testing.T, g *group.Group, i int, m, want wire.Msg) {
	t.Helper()
	b := front.Take(g, i, bytesOf(t, m))
	got, e := wire.Parse(b)
	if e != api.OK || !reflect.DeepEqual(got, want) {
		t.Errorf("%+v: %+v, %v, not %+v", m, got, e, want)
	}
}

// silent sends bytes that must not be answered, and must change nothing.
func silent(t *testing.T, g *group.Group, i int, b []byte) {
	t.Helper()
	before, _ := g.Node(0)
	if got := front.Take(g, i, b); got != nil {
		t.Errorf("%x is answered: %x", b, got)
	}
	if n, _ := g.Node(0); !replica.Same(n, before) {
		t.Errorf("%x has done something", b)
	}
}

func order1(kind int, req int) wire.Msg {
	return wire.Msg{Kind: wire.MCmd, Device: 1, Cmd: api.Cmd{Kind: kind, Device: 1, Epoch: 1, Req: req}}
}

func op(seq, ver, coll int) api.Op {
	return api.Op{Dot: api.Dot{Device: 1, Epoch: 1, Seq: seq}, Coll: coll, Ver: ver, Kind: api.KSet, Key: "k"}
}

func ask(ver, at int, subs ...bool) wire.Msg {
	return wire.Msg{Kind: wire.MAsk, Device: 2, Ver: ver, At: at, Subs: subs}
}

func TestP1701Silent(t *testing.T) {
	g := open3(t)
	good := bytesOf(t, order1(api.CRegister, 1))
	for _, i := range []int{-1, 3} {
		silent(t, g, i, good)
	}
	silent(t, g, 0, nil)
	silent(t, g, 0, good[1:])
	silent(t, g, 0, append(good, 0))
	for _, m := range []wire.Msg{{Kind: wire.MReply, Device: 1}, {Kind: wire.MDelta, Device: 1}, {Kind: wire.MNo, Device: 1}} {
		silent(t, g, 0, bytesOf(t, m))
	}
	for _, device := range []int{-1, 6} {
		m := order1(api.CRegister, 1)
		m.Device, m.Cmd.Device = device, device
		silent(t, g, 0, bytesOf(t, m))
		m = ask(1, 0, true, true, true)
		m.Device = device
		silent(t, g, 0, bytesOf(t, m))
	}
	for _, kind := range []int{0, api.CReclaim, api.CLose, api.CTime, 8} {
		silent(t, g, 0, bytesOf(t, order1(kind, 1)))
	}
	m := order1(api.CRegister, 1)
	m.Cmd.Device = 2
	silent(t, g, 0, bytesOf(t, m))
	for _, m := range []wire.Msg{ask(0, 0, true, true, true), ask(4, 0, true, true, true), ask(1, -1, true, true, true), ask(1, 1<<30+1, true, true, true)} {
		silent(t, g, 0, bytesOf(t, m))
	}
	g.Crash(1)
	silent(t, g, 1, bytesOf(t, ask(1, 0, true, true, true)))
}

func TestP1701Commands(t *testing.T) {
	g := open3(t)
	answers(t, g, 1, order1(api.CRegister, 7), wire.Msg{Kind: wire.MNo, Device: 1, Req: 7, Err: api.ErrLeader})
	answers(t, g, 0, order1(api.CRegister, 7), wire.Msg{Kind: wire.MReply, Device: 1, Req: 7, At: 1, Reply: api.Reply{N: 1}})
	answers(t, g, 0, order1(api.CRegister, 8), wire.Msg{Kind: wire.MReply, Device: 1, Req: 8, At: 1, Reply: api.Reply{Err: api.ErrIs}})
	m := order1(api.CCheckout, 9)
	m.Cmd.N, m.Cmd.Wants = 10, []api.Want{{Key: "x", Up: 1}}
	lease := api.Lease{Device: 1, Epoch: 1, Until: 10, Last: -1, Slices: []api.Slice{{Key: "x", Up: 1}}}
	answers(t, g, 0, m, wire.Msg{Kind: wire.MReply, Device: 1, Req: 9, At: 1, Reply: api.Reply{Lease: lease}})
	m = order1(api.CMerge, 5)
	m.Cmd.Ops = []api.Op{op(1, 1, 0), op(2, 1, 0)}
	answers(t, g, 0, m, wire.Msg{Kind: wire.MReply, Device: 1, At: 1, Reply: api.Reply{N: 2}})
	answers(t, g, 2, m, wire.Msg{Kind: wire.MNo, Device: 1, Req: 5, Err: api.ErrLeader})
	m = order1(api.CClose, 10)
	m.Cmd.N = 2
	answers(t, g, 0, m, wire.Msg{Kind: wire.MReply, Device: 1, Req: 10, At: 1})
	m.Cmd.Epoch = -3
	m.Cmd.Req = 11
	answers(t, g, 0, m, wire.Msg{Kind: wire.MReply, Device: 1, Req: 11, At: -3, Reply: api.Reply{Err: api.ErrFenced}})
	g.Crash(1)
	g.Crash(2)
	answers(t, g, 0, order1(api.CRegister, 12), wire.Msg{Kind: wire.MNo, Device: 1, Req: 12, Err: api.ErrGone})
}

func TestP1701Asks(t *testing.T) {
	g := open3(t)
	delta := func(at, next int, l ...api.Op) wire.Msg {
		return wire.Msg{Kind: wire.MDelta, Device: 2, At: at, Next: next, Ops: l}
	}
	answers(t, g, 1, ask(1, 0, true, true, true), delta(0, 0))
	front.Take(g, 0, bytesOf(t, order1(api.CRegister, 1)))
	l := []api.Op{op(1, 1, 0), op(2, 2, 1), op(3, 1, 0), op(4, 1, 2), op(5, 1, 0), op(6, 3, 0), op(7, 1, 0)}
	m := order1(api.CMerge, 0)
	m.Cmd.Ops = l
	front.Take(g, 0, bytesOf(t, m))
	g.Calm(3)
	no := wire.Msg{Kind: wire.MNo, Device: 2, Err: api.ErrNew}
	for i := range 3 {
		answers(t, g, i, ask(3, 0, true, true, true), delta(0, 4, l[:4]...))
		answers(t, g, i, ask(3, 4, true, true, true), delta(4, 7, l[4:]...))
		answers(t, g, i, ask(3, 7, true, true, true), delta(7, 7))
		answers(t, g, i, ask(3, 1<<30, true, true, true), delta(1<<30, 7))
		answers(t, g, i, ask(3, 0, false, false, false), delta(0, 7))
		answers(t, g, i, ask(3, 1, true, false, true), delta(1, 6, l[2], l[3], l[4], l[5]))
		answers(t, g, i, ask(1, 0, true, true, true), delta(0, 1, l[0]))
		answers(t, g, i, ask(1, 1, true, true, true), no)
		answers(t, g, i, ask(1, 1, true, false, false), delta(1, 5, l[2], l[4]))
		answers(t, g, i, ask(2, 4, true, true, true), delta(4, 5, l[4]))
		answers(t, g, i, ask(2, 5, true, false, false), no)
		answers(t, g, i, ask(1, 0, false, false, true), delta(0, 7, l[3]))
	}
}

// A lease of more ranges than a message may have: wire.Bytes has no bytes for it, and so it is no answer.
func TestP1701NoBytes(t *testing.T) {
	var l []api.Counter
	var wants []api.Want
	for _, key := range []string{"a", "b", "c", "d", ""} {
		if key != "" {
			l = append(l, api.Counter{Key: key})
		}
		wants = append(wants, api.Want{Key: key, Ids: api.MaxBlock})
	}
	g, _ := group.New(l, api.MaxIds)
	g.Calm(60)
	do := func(c api.Cmd) {
		t.Helper()
		if r, e := g.Do(0, c); e != api.OK || r.Err != api.OK {
			t.Fatal(e, r.Err)
		}
	}
	do(api.Cmd{Kind: api.CRegister, Device: 1, Req: 1})
	do(api.Cmd{Kind: api.CCheckout, Device: 1, Epoch: 1, Req: 2, N: 1, Wants: wants})
	for seq := range 125 { // every second one of 250 identifiers
		o := api.Op{Dot: api.Dot{Device: 1, Epoch: 1, Seq: seq + 1}, Ver: 1, Kind: api.KBind, N: 2 * seq}
		do(api.Cmd{Kind: api.CMerge, Device: 1, Epoch: 1, Ops: []api.Op{o}})
	}
	do(api.Cmd{Kind: api.CClose, Device: 1, Epoch: 1, Req: 3, N: 125})
	do(api.Cmd{Kind: api.CTime, N: 6})
	do(api.Cmd{Kind: api.CReclaim, Device: 1})
	m := wire.Msg{Kind: wire.MCmd, Device: 1, Cmd: api.Cmd{Kind: api.CCheckout, Device: 1, Epoch: 1, Req: 4, N: 1, Wants: wants}}
	if b := front.Take(g, 0, bytesOf(t, m)); b != nil {
		t.Errorf("%x", b)
	}
	if d := g.Desk(0); len(d.Book.Leases) != 1 || len(d.Book.Leases[0].Ids) <= 100 {
		t.Errorf("%+v", d.Book)
	}
}

func TestP1702(t *testing.T) {
	g := open3(t)
	front.Take(g, 0, bytesOf(t, order1(api.CRegister, 1)))
	before := [3]api.Desk{g.Desk(0), g.Desk(1), g.Desk(2)}
	under := g.Under()
	for at := range 4 {
		for i := range 3 {
			b := front.Take(g, i, bytesOf(t, ask(1+at%3, at, true, true, true)))
			if _, e := frames.One(b); e != api.OK {
				t.Error(e)
			}
		}
	}
	for i := range 3 {
		if !desk.Same(g.Desk(i), before[i]) || g.Under() != under {
			t.Error("an MAsk has changed something")
		}
	}
}
