package group_test

import (
	"math/rand"
	"strconv"
	"strings"
	"testing"

	"escrow/api"
	"escrow/code"
	"escrow/desk"
	"escrow/group"
	"escrow/plain"
	"escrow/replica"
	"escrow/wire"
)

func open(t *testing.T) *group.Group {
	t.Helper()
	g, e := group.New([]api.Counter{{Key: "x", Hi: 20, Start: 10}}, 50)
	if e != api.OK {
		t.Fatal(e)
	}
	return g
}

func clock(n int) api.Cmd { return api.Cmd{Kind: api.CTime, N: n} }

// do executes a command that must be executed.
func do(t *testing.T, g *group.Group, i int, c api.Cmd) api.Reply {
	t.Helper()
	r, e := g.Do(i, c)
	if e != api.OK {
		t.Fatalf("%v at %d: %v", c, i, e)
	}
	return r
}

func node(g *group.Group, i int) replica.Node {
	n, _ := g.Node(i)
	return n
}

func TestP1601New(t *testing.T) {
	g := open(t)
	d, _ := desk.New([]api.Counter{{Key: "x", Hi: 20, Start: 10}}, 50)
	for i := range 3 {
		if n, up := g.Node(i); !up || !replica.Same(n, replica.New(i)) || !desk.Same(g.Desk(i), d) {
			t.Errorf("%d: %v, %v", i, n, up)
		}
	}
	if g.Under() != 0 {
		t.Error(g.Under())
	}
	for want, l := range map[api.Errno][]api.Counter{api.ErrMany: make([]api.Counter, 5), api.ErrArg: {{}}} {
		if g, e := group.New(l, 0); e != want || g != nil {
			t.Error(e)
		}
	}
}

func TestP1601NoServer(t *testing.T) {
	g := open(t)
	for _, i := range []int{-1, 3, 1 << 40} {
		g.Tick(i)
		if g.Crash(i) || g.Wake(i) || !desk.Same(g.Desk(i), api.Desk{}) {
			t.Error(i)
		}
		if n, up := g.Node(i); up || !replica.Same(n, replica.Node{}) {
			t.Error(n)
		}
		if r, e := g.Do(i, api.Cmd{}); e != api.ErrNone || !plain.SameReply(r, api.Reply{}) {
			t.Error(e)
		}
		if g.Deliver(i) || g.Drop(i) || g.Twice(i) {
			t.Error("no message")
		}
	}
}

func TestP1601Messages(t *testing.T) {
	g := open(t)
	for range 5 {
		g.Tick(0)
	}
	if g.Under() != 2 || node(g, 0).Role != replica.Candidate {
		t.Fatal(g.Under())
	}
	if !g.Twice(0) || g.Under() != 3 || !g.Drop(1) || g.Under() != 2 { // two for server 1
		t.Fatal(g.Under())
	}
	if !g.Deliver(0) || g.Under() != 2 || node(g, 1).Vote != 0 || node(g, 0).Role != replica.Candidate {
		t.Fatal(node(g, 1))
	}
	if !g.Drop(0) || !g.Deliver(0) || node(g, 0).Role != replica.Leader || g.Under() != 2 {
		t.Fatal(node(g, 0))
	}
	g.Crash(1)
	if !g.Deliver(0) || g.Under() != 1 || len(node(g, 1).Log) != 0 {
		t.Error("a server that is down")
	}
	g.Tick(1)
	if node(g, 1).Wait != 0 || g.Under() != 1 {
		t.Error("a server that is down ticks")
	}
	if g.Deliver(1) || g.Drop(1) || g.Twice(1) || g.Deliver(-1) {
		t.Error("no such message")
	}
	for g.Under() < 300 {
		if !g.Twice(0) {
			t.Fatal(g.Under())
		}
	}
	if g.Twice(0) || g.Under() != 300 {
		t.Error(g.Under())
	}
}

func TestP1602Follows(t *testing.T) {
	g := open(t)
	g.Calm(60)
	if n := node(g, 0); n.Role != replica.Leader {
		t.Fatalf("%+v", n)
	}
	do(t, g, 0, clock(3))
	for i := range 40 {
		c := do(t, g, 0, api.Cmd{Kind: api.CRegister, Device: i % 6, Req: 1 + i/6})
		if want := (api.Reply{N: 1}); i < 6 && !plain.SameReply(c, want) {
			t.Errorf("%v", c)
		}
	}
	g.Calm(5)
	for i := range 3 {
		n := node(g, i)
		if len(n.Log) > 41 || n.Base < 2 || !desk.Same(g.Desk(i), g.Desk(0)) || g.Desk(i).Now != 3 {
			t.Errorf("%d: base %d, %d entries", i, n.Base, len(n.Log))
		}
		first := string(code.Text(nil, string(wire.Cmd(clock(3)))))
		if !strings.HasPrefix(n.Snap, first) {
			t.Errorf("%q", n.Snap)
		}
	}
}

// A log of more than 40 entries is compacted, up to what is committed; each snapshot begins with the one before.
func TestP1602Compacts(t *testing.T) {
	g := open(t)
	g.Calm(60)
	var texts []string
	for i := range 130 {
		do(t, g, 0, clock(i+1))
		texts = append(texts, string(code.Text(nil, string(wire.Cmd(clock(i+1))))))
		n := node(g, 0)
		if base := (i + 1) / 40 * 40; n.Base != base || len(n.Log) != i+2-base || n.Commit != i+2 { // one entry is the leader's own
			t.Fatalf("after %d commands: base %d, %d entries, commit %d", i+1, n.Base, len(n.Log), n.Commit)
		}
		if want := strings.Join(texts[:max(n.Base-1, 0)], ""); n.Snap != want {
			t.Fatalf("after %d commands: %q, not %q", i+1, n.Snap, want)
		}
	}
	g.Calm(2)
	before := g.Desk(0)
	g.Crash(0)
	g.Wake(0)
	if !desk.Same(g.Desk(0), before) || before.Now != 130 {
		t.Error("a desk from a snapshot")
	}
}

// While nothing more is committed, the log grows.
func TestP1602Grows(t *testing.T) {
	g := open(t)
	g.Calm(60)
	g.Crash(1)
	g.Crash(2)
	for i := range 60 {
		if _, e := g.Do(0, clock(i+1)); e != api.ErrGone {
			t.Fatal(e)
		}
	}
	if n := node(g, 0); len(n.Log) != 60 || n.Base != 1 || n.Commit != 1 || n.Snap != "" {
		t.Errorf("base %d, %d entries, commit %d, %q", n.Base, len(n.Log), n.Commit, n.Snap)
	}
	g.Wake(1)
	g.Calm(20)
	if g.Desk(0).Now != 60 || g.Desk(1).Now != 60 {
		t.Error(g.Desk(0).Now, g.Desk(1).Now)
	}
}

func TestP1602Snapshot(t *testing.T) {
	g := open(t)
	g.Calm(60)
	g.Crash(2)
	for i := range 120 {
		do(t, g, 0, clock(i+1))
	}
	if n := node(g, 2); n.Commit > 5 || g.Desk(2).Now != 0 {
		t.Fatalf("%+v", n)
	}
	g.Wake(2)
	g.Calm(10)
	if n := node(g, 2); n.Base < 60 || g.Desk(2).Now != 120 || !desk.Same(g.Desk(2), g.Desk(0)) {
		t.Errorf("base %d, %d o'clock", n.Base, g.Desk(2).Now)
	}
}

// A command may have more bytes than a text.
func TestP1602LongCommands(t *testing.T) {
	g := open(t)
	g.Calm(60)
	long := api.Cmd{Kind: api.CCheckout, Device: 1, Req: 1, Epoch: 1}
	for range 3 {
		long.Wants = append(long.Wants, api.Want{Key: strings.Repeat("k", 40000)})
	}
	if r := do(t, g, 0, long); r.Err != api.ErrNone {
		t.Error(r)
	}
	for i := range 60 {
		do(t, g, 0, clock(i+1))
	}
	before := g.Desk(1)
	g.Crash(1)
	if !g.Wake(1) || !desk.Same(g.Desk(1), before) || before.Dev[1].Req != 1 {
		t.Error("a snapshot with a long command")
	}
}

func TestP1603CrashAndWake(t *testing.T) {
	g := open(t)
	g.Calm(60)
	for i := range 50 {
		do(t, g, 0, clock(i+1))
	}
	before, d := node(g, 0), g.Desk(0)
	if g.Wake(0) || !g.Crash(0) || g.Crash(0) {
		t.Error("Crash")
	}
	if n, up := g.Node(0); up || !replica.Same(n, before) || !desk.Same(g.Desk(0), d) {
		t.Error("a server that is down is told as it was")
	}
	if _, e := g.Do(0, clock(1)); e != api.ErrGone {
		t.Error(e)
	}
	if !g.Wake(0) || g.Wake(0) {
		t.Error("Wake")
	}
	if n, up := g.Node(0); !up || !replica.Same(n, replica.Wake(before)) || !desk.Same(g.Desk(0), d) {
		t.Errorf("%+v", n)
	}
	n := node(g, 1)
	n.Log[0].Cmd = "?"
	g.Desk(1).Book.Counters[0].Up = 99
	if node(g, 1).Log[0].Cmd == "?" || g.Desk(1).Book.Counters[0].Up == 99 {
		t.Error("memory is shared")
	}
}

func TestP1603Calm(t *testing.T) {
	g, h := open(t), open(t)
	g.Calm(-1)
	g.Calm(0)
	if node(g, 0).Wait != 0 {
		t.Error("no rounds")
	}
	for range 30 {
		g.Calm(1)
		for k := h.Under(); k > 0; k-- { // a round by hand
			h.Deliver(0)
		}
		for i := range 3 {
			h.Tick(i)
		}
		for i := range 3 {
			if !replica.Same(node(g, i), node(h, i)) || g.Under() != h.Under() {
				t.Fatal("Calm is other than what it says")
			}
		}
	}
	g, h = open(t), open(t)
	for _, x := range []*group.Group{g, h} {
		x.Crash(1)
		x.Crash(2)
	}
	g.Calm(1000)
	h.Calm(200)
	if !replica.Same(node(g, 0), node(h, 0)) {
		t.Error("more than 200 rounds")
	}
}

// Do waits no longer than it must: the others have the entry, and are not told yet that it is committed.
func TestP1604Waits(t *testing.T) {
	g := open(t)
	g.Calm(60)
	do(t, g, 0, clock(1))
	if a, b := node(g, 0), node(g, 1); a.Commit != 2 || b.Commit != 1 || len(b.Log) != 2 {
		t.Errorf("%+v\n%+v", a, b)
	}
}

func TestP1604Errors(t *testing.T) {
	g := open(t)
	if _, e := g.Do(0, clock(1)); e != api.ErrLeader {
		t.Error(e)
	}
	g.Calm(60)
	for i, c := range []struct {
		server int
		c      api.Cmd
		want   api.Errno
	}{
		{3, clock(1), api.ErrNone},
		{1, clock(1), api.ErrLeader},
		{1, api.Cmd{Wants: make([]api.Want, 21)}, api.ErrArg},
		{0, api.Cmd{Ops: make([]api.Op, 1)}, api.ErrArg},
		{0, api.Cmd{Ops: make([]api.Op, 21)}, api.ErrArg},
	} {
		before := node(g, 0)
		if r, e := g.Do(c.server, c.c); e != c.want || !plain.SameReply(r, api.Reply{}) || !replica.Same(node(g, 0), before) {
			t.Errorf("%d: %v", i, e)
		}
	}
	if r := do(t, g, 0, api.Cmd{}); r.Err != api.ErrKind {
		t.Error(r)
	}
	g.Crash(1)
	g.Crash(2)
	before := node(g, 0)
	if r, e := g.Do(0, clock(9)); e != api.ErrGone || !plain.SameReply(r, api.Reply{}) || len(node(g, 0).Log) != len(before.Log)+1 {
		t.Error(e)
	}
	if g.Desk(0).Now != 0 {
		t.Error("one server of three has executed a command")
	}
}

// A leader whose term is over: another entry comes in the place of its own.
func TestP1604Replaced(t *testing.T) {
	g := open(t)
	g.Calm(60)
	for g.Under() > 0 {
		g.Drop(0)
	}
	for g.Under() == 0 {
		g.Tick(1)
	}
	// Server 1 asks 0 and 2 for their votes, and leads by that of 2; then it tells 0 and 2. Server 0 knows nothing of it.
	g.Drop(0)
	g.Deliver(0)
	g.Deliver(0)
	g.Drop(0)
	if node(g, 1).Role != replica.Leader || node(g, 0).Role != replica.Leader || node(g, 1).Term <= node(g, 0).Term {
		t.Fatalf("%+v\n%+v", node(g, 0), node(g, 1))
	}
	if r, e := g.Do(0, clock(77)); e != api.ErrGone || !plain.SameReply(r, api.Reply{}) {
		t.Errorf("%v, %v", r, e)
	}
	g.Calm(20)
	for i := range 3 {
		if g.Desk(i).Now != 0 {
			t.Error("an entry that was replaced was executed")
		}
	}
	if r := do(t, g, 1, clock(5)); !plain.SameReply(r, api.Reply{}) || g.Desk(1).Now != 5 {
		t.Error(r)
	}
}

// Servers go down and up, messages are lost and doubled: each desk is a state that the others have been in, or will be in.
func TestP1605(t *testing.T) {
	for seed := range 12 {
		rnd := rand.New(rand.NewSource(int64(seed)))
		g := open(t)
		history := map[int]string{} // what a desk is after an index
		for step := range 2500 {
			i := rnd.Intn(3)
			switch p := rnd.Intn(30); {
			case p < 10:
				g.Tick(i)
			case p < 22:
				g.Deliver(rnd.Intn(6))
			case p < 23:
				g.Drop(rnd.Intn(6))
			case p < 24:
				g.Twice(rnd.Intn(6))
			case p == 24 && rnd.Intn(5) == 0:
				g.Crash(i)
			case p < 26:
				g.Wake(i)
			case p == 26:
				g.Calm(1)
			case p < 29:
				g.Do(i, clock(step))
			default:
				g.Do(i, api.Cmd{Kind: api.CRegister, Device: rnd.Intn(6), Req: 1 + step/100})
			}
			for i := range 3 {
				reached, d := node(g, i).Commit, g.Desk(i)
				text := strconv.Itoa(d.Now)
				for _, x := range d.Dev {
					text += " " + strconv.Itoa(x.Epoch) + " " + strconv.Itoa(x.Req)
				}
				if known, ok := history[reached]; ok && known != text {
					t.Fatalf("after entry %d: %q and %q", reached, known, text)
				}
				history[reached] = text
			}
		}
		g.Wake(0)
		g.Wake(1)
		g.Crash(2)
		g.Calm(60)
		leads, best := 0, 0
		for i := range 2 {
			if node(g, i).Role == replica.Leader && node(g, i).Term >= node(g, 1-i).Term {
				leads++
				best = i
			}
		}
		if _, e := g.Do(best, clock(1<<20)); e != api.OK || leads != 1 {
			t.Errorf("seed %d: %v, %d lead", seed, e, leads)
		}
	}
}
