package edge_test

import (
	"math"
	"math/rand"
	"reflect"
	"strconv"
	"strings"
	"testing"

	"escrow/api"
	"escrow/disk"
	"escrow/edge"
	"escrow/journal"
	"escrow/local"
	"escrow/wire"
)

var all = []bool{true, true, true}

func newDisk(t *testing.T, room int) *disk.Disk {
	t.Helper()
	d, e := disk.New(room)
	if e != api.OK {
		t.Fatal(e)
	}
	return d
}

func open(t *testing.T, d *disk.Disk) *edge.Edge {
	t.Helper()
	c, e := edge.Open(d, 1, 2, all)
	if e != api.OK {
		t.Fatal(e)
	}
	return c
}

func ok(t *testing.T, l ...api.Errno) {
	t.Helper()
	for i, e := range l {
		if e != api.OK {
			t.Fatalf("call %d: %v", i, e)
		}
	}
}

func bytesOf(m wire.Msg) []byte {
	b, _ := wire.Bytes(m)
	return b
}

func reply(req, at int, r api.Reply) []byte {
	return bytesOf(wire.Msg{Kind: wire.MReply, Device: 1, Req: req, At: at, Reply: r})
}

func delta(at, next int, l ...api.Op) []byte {
	return bytesOf(wire.Msg{Kind: wire.MDelta, Device: 1, At: at, Next: next, Ops: l})
}

func set(text string) api.Op { return api.Op{Kind: api.KSet, Key: "k", Text: text} }

func incoming(seq, kind int) api.Op {
	o := api.Op{Dot: api.Dot{Device: 2, Epoch: 1, Seq: seq}, Coll: seq % 3, Ver: 2, Kind: kind, Key: "k" + strconv.Itoa(seq%4), Text: "t", N: seq % 900, Time: seq}
	if kind == api.KCount {
		o.N++
	}
	if kind == api.KRem {
		o.Dots = []api.Dot{{Device: 2, Epoch: 1, Seq: seq - 1}, {Device: 3, Epoch: seq, Seq: 1}}
	}
	return o
}

var lease = api.Lease{Device: 1, Epoch: 1, Until: 10, Last: -1, Slices: []api.Slice{{Key: "x", Up: 5, Down: 1}}, Ids: []api.Range{{To: 3}}}

// leased opens a client and gives it a lease.
func leased(t *testing.T, d *disk.Disk) *edge.Edge {
	t.Helper()
	c := open(t, d)
	ok(t, c.Register(), c.Take(reply(1, 0, api.Reply{N: 1})), c.Checkout([]api.Want{{Key: "x", Up: 5, Down: 1}, {Ids: 3}}, 10), c.Take(reply(2, 1, api.Reply{Lease: lease})))
	return c
}

func next(t *testing.T, c *edge.Edge) wire.Msg {
	t.Helper()
	m, e := wire.Parse(c.Next())
	if e != api.OK {
		t.Fatal(e)
	}
	return m
}

func TestP1901Open(t *testing.T) {
	d := newDisk(t, 1000)
	c := open(t, d)
	if s, _ := local.New(1, 2, all); !local.Same(c.State(), s) || d.Ops() != 0 {
		t.Errorf("%+v", c.State())
	}
	for _, args := range [][2]int{{-1, 1}, {6, 1}, {0, 0}, {0, 4}} {
		if c, e := edge.Open(d, args[0], args[1], all); e != api.ErrArg || c != nil {
			t.Error(e)
		}
	}
	if c, e := edge.Open(d, 1, 2, all[:2]); e != api.ErrArg || c != nil {
		t.Error(e)
	}
	d.Stop(1)
	d.Sync()
	if c, e := edge.Open(d, 1, 2, all); e != api.ErrDead || c != nil {
		t.Error(e)
	}
	if c, e := edge.Open(d, 1, 0, all); e != api.ErrArg || c != nil {
		t.Error(e)
	}
	d.Crash(0)
	d.Swap([]byte("x"))
	if c, e := edge.Open(d, 1, 2, all); e != api.ErrBad || c != nil {
		t.Error(e)
	}
}

// Each call leads to the state of local's function, and is there when the client is opened again.
func TestP1901Calls(t *testing.T) {
	d := newDisk(t, 100000)
	c := open(t, d)
	s := c.State()
	wants := []api.Want{{Key: "x", Up: 5, Down: math.MinInt}, {Key: strings.Repeat("\xff", 40)}}
	full := api.Op{Dot: api.Dot{Device: 9}, Coll: 1, Ver: 9, Kind: api.KAdd, Key: "k", Text: "t", N: math.MinInt, Time: -9, Dots: make([]api.Dot, 20)}
	begin := func(cmd api.Cmd) func(local.State) (local.State, api.Errno) {
		return func(s local.State) (local.State, api.Errno) { return local.Begin(s, cmd) }
	}
	for i, x := range []struct {
		call func() api.Errno
		want func(local.State) (local.State, api.Errno)
	}{
		{c.Close, begin(api.Cmd{Kind: api.CClose})},
		{c.Register, begin(api.Cmd{Kind: api.CRegister})},
		{c.Register, begin(api.Cmd{Kind: api.CRegister})},
		{func() api.Errno { return c.Take(reply(1, 0, api.Reply{N: 1})) }, func(s local.State) (local.State, api.Errno) { return local.Reply(s, 1, api.Reply{N: 1}) }},
		{func() api.Errno { return c.Checkout(wants, 0) }, begin(api.Cmd{Kind: api.CCheckout})},
		{func() api.Errno { return c.Checkout(make([]api.Want, 6), 1) }, begin(api.Cmd{Kind: api.CCheckout, N: 1, Wants: make([]api.Want, 6)})},
		{func() api.Errno { return c.Checkout(wants, 7) }, begin(api.Cmd{Kind: api.CCheckout, N: 7, Wants: wants})},
		{func() api.Errno { return c.Tick(100) }, func(s local.State) (local.State, api.Errno) { return local.Time(s, 100) }},
		{func() api.Errno { return c.Tick(101) }, func(s local.State) (local.State, api.Errno) { return local.Time(s, 101) }},
		{func() api.Errno { return c.Take(reply(2, 1, api.Reply{Lease: lease})) }, func(s local.State) (local.State, api.Errno) { return local.Reply(s, 2, api.Reply{Lease: lease}) }},
		{func() api.Errno { return c.Do(full) }, func(s local.State) (local.State, api.Errno) { return local.Do(s, full) }},
		{func() api.Errno { return c.Do(api.Op{Kind: api.KBind, N: 1}) }, func(s local.State) (local.State, api.Errno) { return local.Do(s, api.Op{Kind: api.KBind, N: 1}) }},
		{func() api.Errno { return c.Take(delta(0, 9, incoming(1, api.KAdd))) }, func(s local.State) (local.State, api.Errno) {
			return local.Delta(s, 0, 9, []api.Op{incoming(1, api.KAdd)})
		}},
		{c.Close, begin(api.Cmd{Kind: api.CClose})},
		{c.Close, begin(api.Cmd{Kind: api.CClose})},
	} {
		want, we := x.want(s)
		ops := d.Ops()
		if e := x.call(); e != we || !local.Same(c.State(), want) {
			t.Errorf("%d: %v, not %v: %+v", i, e, we, c.State())
		}
		if (d.Ops() == ops) != local.Same(s, want) {
			t.Errorf("%d: written: %v", i, d.Ops() != ops)
		}
		if s = want; !local.Same(open(t, d).State(), s) {
			t.Errorf("%d: opened again: %+v", i, open(t, d).State())
		}
	}
	c.State().Pending[0].Key = "?"
	c.State().Subs[0] = false
	if !local.Same(c.State(), s) {
		t.Error("memory is shared")
	}
}

func TestP1901Full(t *testing.T) {
	d := newDisk(t, 120)
	c := open(t, d)
	var e api.Errno
	for e == api.OK {
		e = c.Tick(1)
		if c.State().Now > 100 {
			e = c.Register()
		}
		if c.State().Cmd.Kind != 0 {
			break
		}
	}
	ok(t, e, c.Take(reply(1, 0, api.Reply{N: 1})))
	for e == api.OK {
		e = c.Do(set(strings.Repeat("x", 20)))
	}
	s := c.State()
	if e != api.ErrFull || s.Seq == 0 {
		t.Errorf("%v after %d operations", e, s.Seq)
	}
	if e := c.Do(set(strings.Repeat("x", 20))); e != api.ErrFull || !local.Same(c.State(), s) || !local.Same(open(t, d).State(), s) {
		t.Error(e)
	}
	if e := c.Do(set("\n")); e != api.ErrLong {
		t.Error(e)
	}
	d.Stop(1)
	e = c.Tick(1)
	if e != api.ErrDead || !local.Same(c.State(), s) || c.Take(reply(0, 1, api.Reply{Err: api.ErrFenced})) != api.ErrDead {
		t.Error(e)
	}
	ok(t, c.Take(bytesOf(wire.Msg{Kind: wire.MNo, Device: 1}))) // nothing changes, so nothing is written
}

// All that a state has goes into a snapshot, and comes out again.
func TestP1901Snapshots(t *testing.T) {
	d := newDisk(t, 1<<20)
	c := leased(t, d)
	for seq := 1; seq < 120; seq++ {
		ok(t, c.Take(delta(c.State().At, c.State().At+2, incoming(seq, 1+seq%5))))
		if seq%9 == 0 {
			ok(t, c.Do(api.Op{Kind: api.KRem, Coll: seq % 3, Key: "k1", Text: "t"}), c.Tick(0))
		}
		if j, _, _, _ := journal.Open(d); j.Count() > 16 {
			t.Fatal(j.Count())
		}
		if !local.Same(open(t, d).State(), c.State()) {
			t.Fatalf("after %d", seq)
		}
	}
	ok(t, c.Do(api.Op{Kind: api.KCount, Key: "x", N: 2}), c.Do(api.Op{Kind: api.KBind, N: 2, Text: "b"}), c.Close(), c.Take(reply(0, 1, api.Reply{Err: api.ErrFenced})))
	s := c.State()
	for range 20 { // whatever has been written as records is now in a snapshot
		ok(t, c.Tick(1))
	}
	s.Now += 20
	if got := open(t, d).State(); !local.Same(got, s) || len(d.Snap()) == 0 {
		t.Errorf("%+v", got)
	}
	for _, x := range s.Colls {
		if len(x.Regs) == 0 || len(x.Elems) == 0 || len(x.Gone) == 0 || len(x.Sums) == 0 || len(x.Binds) == 0 {
			t.Errorf("too little for a test: %+v", x)
		}
	}
}

func TestP1902(t *testing.T) {
	c := open(t, newDisk(t, 100000))
	ask := wire.Msg{Kind: wire.MAsk, Device: 1, Ver: 2, Subs: all}
	is := func(want wire.Msg) {
		t.Helper()
		if m := next(t, c); !reflect.DeepEqual(m, want) {
			t.Errorf("%+v, not %+v", m, want)
		}
	}
	is(ask)
	ok(t, c.Register())
	is(wire.Msg{Kind: wire.MCmd, Device: 1, Cmd: api.Cmd{Kind: api.CRegister, Device: 1, Req: 1}})
	ok(t, c.Take(reply(1, 0, api.Reply{N: 1})))
	is(ask)
	for i := range 6 {
		ok(t, c.Do(set(strconv.Itoa(i))))
	}
	l := c.State().Pending
	merge := func(l ...api.Op) wire.Msg {
		return wire.Msg{Kind: wire.MCmd, Device: 1, Cmd: api.Cmd{Kind: api.CMerge, Device: 1, Epoch: 1, Ops: l}}
	}
	is(merge(l[:4]...))
	ok(t, c.Take(reply(0, 1, api.Reply{N: 4})))
	is(merge(l[4:]...))
	ok(t, c.Checkout(nil, 10))
	is(wire.Msg{Kind: wire.MCmd, Device: 1, Cmd: api.Cmd{Kind: api.CCheckout, Device: 1, Epoch: 1, Req: 2, N: 10}})
	ok(t, c.Take(reply(2, 1, api.Reply{Err: api.ErrRights})), c.Take(reply(0, 1, api.Reply{N: 6})))
	is(ask)
	ok(t, c.Take(delta(0, 3, l[0])), c.Do(set("more")))
	ok(t, c.Take(reply(0, 1, api.Reply{Err: api.ErrFenced})))
	ask.At = 3
	is(ask)
}

func TestP1903(t *testing.T) {
	d := newDisk(t, 100000)
	c := leased(t, d)
	ok(t, c.Do(set("a")), c.Close())
	s := c.State()
	foreign := reply(3, 1, api.Reply{})
	m, _ := wire.Parse(foreign)
	m.Device = 2
	ops := d.Ops()
	for i, x := range []struct {
		b    []byte
		want api.Errno
	}{
		{nil, api.ErrCut},
		{append(foreign, 0), api.ErrMore},
		{bytesOf(m), api.ErrArg},
		{bytesOf(wire.Msg{Kind: wire.MAsk, Device: 2, Subs: all}), api.ErrArg},
		{bytesOf(wire.Msg{Kind: wire.MAsk, Device: 1, Subs: all}), api.ErrKind},
		{bytesOf(wire.Msg{Kind: wire.MCmd, Device: 1}), api.ErrKind},
		{bytesOf(wire.Msg{Kind: wire.MNo, Device: 1, Req: 3, Err: api.ErrFenced}), api.OK},
		{reply(0, 0, api.Reply{N: 1}), api.ErrNone},
		{reply(0, 2, api.Reply{Err: api.ErrFenced}), api.ErrNone},
		{reply(0, 1, api.Reply{N: 0}), api.OK},
		{reply(2, 1, api.Reply{}), api.ErrNone},
		{delta(1, 2), api.ErrNone},
		{delta(0, -1), api.ErrArg},
		{delta(0, 0), api.OK},
	} {
		if e := c.Take(x.b); e != x.want || !local.Same(c.State(), s) || d.Ops() != ops {
			t.Errorf("%d: %v, not %v", i, e, x.want)
		}
	}
	want, _ := local.Reply(s, 3, api.Reply{})
	if e := c.Take(reply(3, 77, api.Reply{})); e != api.OK || !local.Same(c.State(), want) || d.Ops() != ops+2 {
		t.Error(e)
	}
}

// deed is a call of a client, and what local does for it.
type deed struct {
	call func(c *edge.Edge) api.Errno
	do   func(s local.State) (local.State, api.Errno)
}

func begins(c api.Cmd) deed {
	call := func(e *edge.Edge) api.Errno { return e.Checkout(c.Wants, c.N) }
	switch c.Kind {
	case api.CRegister:
		call = (*edge.Edge).Register
	case api.CClose:
		call = (*edge.Edge).Close
	}
	return deed{call, func(s local.State) (local.State, api.Errno) { return local.Begin(s, c) }}
}

// random is a deed that may do something in a state; seq: of the next operation that comes in.
func random(rnd *rand.Rand, s local.State, turn, seq int) deed {
	switch rnd.Intn(8) {
	case 0:
		n := rnd.Intn(3)
		return deed{func(c *edge.Edge) api.Errno { return c.Tick(n) }, func(s local.State) (local.State, api.Errno) { return local.Time(s, n) }}
	case 1:
		return begins([]api.Cmd{{Kind: api.CRegister}, {Kind: api.CCheckout, N: 5, Wants: []api.Want{{Key: "x", Up: 1}}}, {Kind: api.CClose}}[rnd.Intn(3)])
	case 2:
		r := api.Reply{N: s.Epoch + 1, Lease: lease}
		r.Lease.Epoch = s.Epoch
		return deed{func(c *edge.Edge) api.Errno { return c.Take(reply(s.Req, 0, r)) }, func(s local.State) (local.State, api.Errno) { return local.Reply(s, s.Req, r) }}
	case 3:
		l := []api.Op{incoming(seq, 1+rnd.Intn(5))}
		return deed{func(c *edge.Edge) api.Errno { return c.Take(delta(s.At, s.At+1, l...)) }, func(s local.State) (local.State, api.Errno) { return local.Delta(s, s.At, s.At+1, l) }}
	case 4:
		r := api.Reply{N: rnd.Intn(s.Seq + 1)}
		return deed{func(c *edge.Edge) api.Errno { return c.Take(reply(0, s.Epoch, r)) }, func(s local.State) (local.State, api.Errno) { return local.Reply(s, 0, r) }}
	}
	o := api.Op{Kind: 1 + rnd.Intn(5), Key: "x", Text: "t" + strconv.Itoa(turn), N: rnd.Intn(3)}
	return deed{func(c *edge.Edge) api.Errno { return c.Do(o) }, func(s local.State) (local.State, api.Errno) { return local.Do(s, o) }}
}

// Wherever the power fails: the state after all calls without an error, or after one more.
func TestP1904(t *testing.T) {
	for stop := 1; stop < 90; stop++ {
		rnd := rand.New(rand.NewSource(int64(stop)))
		d := newDisk(t, 1200+rnd.Intn(3000))
		c := open(t, d)
		d.Stop(stop)
		for turn := range 1000 {
			s := c.State()
			seq := 1
			for _, x := range s.Colls {
				for _, v := range x.V {
					if v.Device == 2 {
						seq = max(seq, v.Seq+1)
					}
				}
			}
			next := random(rnd, s, turn, seq)
			after, want := next.do(s)
			e := next.call(c)
			if e == api.OK && !local.Same(c.State(), after) || e != api.OK && !local.Same(c.State(), s) {
				t.Fatalf("%v: %+v", e, c.State())
			}
			if e == api.ErrDead {
				d.Crash(rnd.Intn(500))
				if got := open(t, d).State(); !local.Same(got, s) && !local.Same(got, after) {
					t.Fatalf("stop %d: %+v, neither %+v nor %+v", stop, got, s, after)
				}
				break
			}
			if e != want && e != api.ErrFull {
				t.Fatalf("%v, not %v", e, want)
			}
			if e == api.ErrFull && want == api.OK {
				break
			}
		}
	}
}
