package world_test

import (
	"math"
	"math/rand"
	"strconv"
	"testing"

	"escrow/api"
	"escrow/coll"
	"escrow/desk"
	"escrow/group"
	"escrow/ledger"
	"escrow/local"
	"escrow/ops"
	"escrow/replica"
	"escrow/world"
)

func counters() []api.Counter {
	return []api.Counter{{Key: "x", Hi: 20, Start: 10}, {Key: "y", Coll: 1, Lo: -100, Hi: 100}}
}

func start(t *testing.T, clients int) *world.World {
	t.Helper()
	w, e := world.New(counters(), 50, clients)
	if e != api.OK {
		t.Fatal(e)
	}
	return w
}

func ok(t *testing.T, l ...api.Errno) {
	t.Helper()
	for i, e := range l {
		if e != api.OK {
			t.Fatalf("call %d: %v", i, e)
		}
	}
}

// clients tells how many clients a world has.
func clients(w *world.World) int {
	n := 0
	for w.Edge(n) != nil {
		n++
	}
	return n
}

// running is a world whose clients have epochs and leases.
func running(t *testing.T, clients int) *world.World {
	t.Helper()
	w := start(t, clients)
	for i := range clients {
		ok(t, w.Edge(i).Register())
	}
	w.Sync(40)
	for i := range clients {
		ok(t, w.Edge(i).Checkout([]api.Want{{Key: "x", Up: 1, Down: 1}, {Key: "y", Up: 9, Down: 9, Ids: 5}}, 100))
	}
	w.Sync(3)
	for i := range clients {
		if s := w.Edge(i).State(); s.Epoch != 1 || s.Lease.Epoch != 1 {
			t.Fatalf("client %d: %+v", i, s)
		}
	}
	return w
}

func TestP2001(t *testing.T) {
	w := start(t, 4)
	for i := range 4 {
		want, _ := local.New(i, 3, []bool{true, true, true})
		if s := w.Edge(i).State(); !local.Same(s, want) {
			t.Errorf("%+v", s)
		}
	}
	if w.Edge(4) != nil || w.Edge(-1) != nil || w.Under() != 0 {
		t.Error("no such client")
	}
	g, _ := group.New(counters(), 50)
	if !desk.Same(w.Group().Desk(1), g.Desk(1)) || w.Group().Under() != 0 {
		t.Error("the group")
	}
	ok(t, w.Edge(2).Tick(5))
	w.Group().Crash(1)
	if _, up := w.Group().Node(1); up || w.Edge(2).State().Now != 5 {
		t.Error("these are the objects themselves")
	}
	for _, n := range []int{0, -1, 7, math.MaxInt} {
		if w, e := world.New(make([]api.Counter, 9), 50, n); e != api.ErrArg || w != nil {
			t.Error(n, e)
		}
	}
	if w, e := world.New(make([]api.Counter, 9), 50, 6); e != api.ErrMany || w != nil {
		t.Error(e)
	}
}

func TestP2002(t *testing.T) {
	w := start(t, 2)
	w.Group().Calm(60)
	for _, c := range [][2]int{{2, 0}, {-1, 0}, {0, 3}, {0, -1}} {
		if w.Send(c[0], c[1]) {
			t.Error(c)
		}
	}
	if w.Deliver(0) || w.Drop(0) || w.Twice(0) || w.Deliver(-1) {
		t.Error("no message")
	}
	ok(t, w.Edge(0).Register(), w.Edge(1).Register())
	if !w.Send(0, 0) || !w.Send(1, 0) || !w.Twice(0) || w.Under() != 3 {
		t.Fatal(w.Under())
	}
	if !w.Drop(1) || !w.Deliver(0) || w.Under() != 2 { // one for the server, one for client 0
		t.Fatal(w.Under())
	}
	if w.Edge(0).State().Epoch != 0 || !w.Deliver(1) || w.Edge(0).State().Epoch != 1 || w.Under() != 1 {
		t.Fatal(w.Edge(0).State())
	}
	if !w.Deliver(0) || !w.Deliver(0) || w.Under() != 0 || w.Edge(0).State().Epoch != 1 || w.Group().Desk(0).Dev[0].Epoch != 1 {
		t.Error("a message that comes twice")
	}
	w.Group().Crash(2)
	if !w.Send(1, 2) || !w.Deliver(0) || w.Under() != 0 {
		t.Error("a server that is down does not answer")
	}
	for range 150 {
		if !w.Send(0, 0) || !w.Twice(0) {
			t.Fatal(w.Under())
		}
	}
	if w.Send(0, 0) || w.Twice(0) || w.Under() != 300 {
		t.Error(w.Under())
	}
	if !w.Deliver(0) || w.Under() != 300 || w.Deliver(300) || w.Drop(300) {
		t.Error(w.Under())
	}
}

func TestP2003(t *testing.T) {
	w := start(t, 2)
	w.Group().Calm(60)
	nows := func() [3]int {
		return [3]int{w.Group().Desk(0).Now, w.Edge(0).State().Now, w.Edge(1).State().Now}
	}
	for i, c := range []struct {
		n     int
		skews []int
		e     api.Errno
		want  [3]int
	}{
		{-1, nil, api.ErrArg, [3]int{}},
		{51, nil, api.ErrArg, [3]int{}},
		{10, []int{5, -5, 99}, api.OK, [3]int{10, 15, 5}},
		{10, []int{1}, api.ErrArg, [3]int{10, 15, 5}},
		{10, []int{0, -1}, api.ErrArg, [3]int{10, 15, 5}},
		{5, []int{-6}, api.ErrArg, [3]int{10, 15, 5}},
		{10, []int{-10, 10}, api.OK, [3]int{20, 15, 25}},
		{50, nil, api.OK, [3]int{70, 65, 75}},
		{10, []int{math.MinInt}, api.ErrArg, [3]int{70, 65, 75}},
		{10, []int{0, math.MaxInt}, api.ErrArg, [3]int{70, 65, 75}},
		{0, []int{5, 0}, api.OK, [3]int{70, 70, 75}},
		{0, []int{5, -1}, api.ErrArg, [3]int{70, 70, 75}},
		{0, []int{5}, api.OK, [3]int{70, 75, 75}},
	} {
		if e := w.Clock(c.n, c.skews); e != c.e || nows() != c.want {
			t.Errorf("%d: %v, %v", i, e, nows())
		}
	}
	w.Group().Crash(0)
	ok(t, w.Clock(7, nil))
	if nows() != [3]int{70, 82, 82} {
		t.Error(nows())
	}
	w.Group().Calm(60)
	w.Sync(1)
	if w.Group().Desk(1).Now != 77 {
		t.Error("Sync tells the time")
	}
}

func TestP2004Crash(t *testing.T) {
	w := running(t, 2)
	ok(t, w.Edge(1).Do(api.Op{Kind: api.KCount, Key: "x", N: 1}))
	s, old := w.Edge(1).State(), w.Edge(1)
	ok(t, w.Crash(1, 3))
	if w.Edge(1) == old || !local.Same(w.Edge(1).State(), s) {
		t.Errorf("%+v", w.Edge(1).State())
	}
	for _, i := range []int{-1, 2} {
		if w.Crash(i, 0) != api.ErrNone || w.Reclaim(i) != api.ErrNone || w.Lose(i) != api.ErrNone {
			t.Error(i)
		}
	}
}

func TestP2004ReclaimAndLose(t *testing.T) {
	w := start(t, 2)
	if w.Reclaim(0) != api.ErrGone || w.Lose(0) != api.ErrGone {
		t.Error("no leader")
	}
	w = running(t, 2)
	if e := w.Reclaim(0); e != api.ErrOpen {
		t.Error(e)
	}
	ok(t, w.Edge(0).Close())
	w.Sync(2)
	if e := w.Reclaim(0); e != api.ErrEarly {
		t.Error(e)
	}
	ok(t, w.Clock(50, nil), w.Clock(50, nil), w.Clock(5, nil), w.Reclaim(0), w.Lose(1))
	if e := w.Reclaim(0); e != api.ErrNone {
		t.Error(e)
	}
	if e := w.Lose(1); e != api.ErrIs {
		t.Error(e)
	}
	w.Group().Crash(1)
	w.Group().Crash(2)
	if e := w.Lose(0); e != api.ErrGone {
		t.Error(e)
	}
	if d := w.Group().Desk(0); len(d.Book.Leases) != 0 || len(d.Lost) != 1 || d.Lost[0].Device != 1 {
		t.Errorf("%+v", d)
	}
}

func TestP2005(t *testing.T) {
	w := start(t, 1)
	ok(t, w.Edge(0).Register())
	w.Sync(80)
	if w.Edge(0).State().Epoch != 1 {
		t.Error("the example of the chapter")
	}
	w.Sync(-5)
	w.Sync(0)
	if w.Under() != 0 {
		t.Error("messages are left")
	}
	w.Send(0, 0)
	w.Sync(1)
	if w.Under() != 0 {
		t.Error("messages are left")
	}

	// a round by hand
	v, u := running(t, 3), running(t, 3)
	for _, w := range []*world.World{v, u} {
		ok(t, w.Clock(9, nil))
		ok(t, w.Edge(0).Do(api.Op{Kind: api.KSet, Key: "k", Text: "a"}), w.Edge(2).Do(api.Op{Kind: api.KSet, Key: "k", Text: "b"}))
		w.Send(2, 0)
		w.Send(0, 1)
	}
	v.Sync(1)
	empty := func() {
		for u.Under() > 0 {
			u.Deliver(0)
		}
	}
	empty()
	u.Group().Calm(1)
	u.Group().Do(0, api.Cmd{Kind: api.CTime, N: 9})
	for i := range 3 {
		u.Send(i, 0)
	}
	empty()
	for i := range 3 {
		a, _ := v.Group().Node(i)
		b, _ := u.Group().Node(i)
		if !replica.Same(a, b) || !local.Same(v.Edge(i).State(), u.Edge(i).State()) {
			t.Errorf("%d: Sync is other than what it says", i)
		}
	}

	// at most 200 rounds; without a leader the clients ask server 0
	w = start(t, 1)
	w.Group().Crash(1)
	w.Group().Crash(2)
	w.Sync(1000)
	if n, _ := w.Group().Node(0); n.Term != 40 || n.Wait != 0 || w.Under() != 0 {
		t.Errorf("%+v", n)
	}
}

// even tells whether servers and clients have all that was accepted, and read it alike.
func even(t *testing.T, w *world.World) {
	t.Helper()
	d := w.Group().Desk(0)
	for i := range 3 {
		if !desk.Same(d, w.Group().Desk(i)) {
			t.Fatalf("server %d is other than server 0", i)
		}
	}
	lost := map[api.Dot]int{}
	for _, e := range d.Lost {
		lost[api.Dot{Device: e.Device, Epoch: e.Epoch}] = 1
	}
	for i := range clients(w) {
		s := w.Edge(i).State()
		if s.Fenced || lost[api.Dot{Device: i, Epoch: s.Epoch}] > 0 {
			continue
		}
		if len(s.Pending) > 0 {
			t.Fatalf("client %d has %d pending", i, len(s.Pending))
		}
		for c := range s.Colls {
			if !coll.Same(s.Colls[c], d.Colls[c]) {
				t.Fatalf("client %d reads collection %d otherwise", i, c)
			}
		}
	}
}

// sound tells whether counters are within their bounds and no identifier means two things, over all that was accepted.
func sound(t *testing.T, w *world.World) {
	t.Helper()
	best, top := 0, -1
	for i := range 3 {
		if n, _ := w.Group().Node(i); n.Commit > top {
			best, top = i, n.Commit
		}
	}
	d := w.Group().Desk(best)
	if !ledger.Sound(d.Book) {
		t.Fatalf("%+v", d.Book)
	}
	accepted := d.Log
	for i := range clients(w) {
		for _, o := range w.Edge(i).State().Pending {
			taken := false
			for _, x := range d.Log {
				taken = taken || x.Dot == o.Dot
				if x.Dot == o.Dot && !ops.Same(x, o) {
					t.Fatalf("%+v and %+v", x, o)
				}
			}
			for _, e := range d.Lost {
				taken = taken || e.Device == o.Dot.Device && e.Epoch == o.Dot.Epoch
			}
			if !taken {
				accepted = append(accepted, o)
			}
		}
	}
	sums, ids := map[string]int{}, map[int]int{}
	for _, o := range accepted {
		switch o.Kind {
		case api.KCount:
			sums[o.Key] += o.N
		case api.KBind:
			ids[o.N]++
			if ids[o.N] > 1 {
				t.Fatalf("%d is bound twice", o.N)
			}
		}
	}
	for _, c := range counters() {
		if v := c.Start + sums[c.Key]; v < c.Lo || v > c.Hi {
			t.Fatalf("%s is %d", c.Key, v)
		}
	}
}

// anything does a random thing to a world.
func anything(rnd *rand.Rand, w *world.World, step int) {
	i, server := rnd.Intn(clients(w)), rnd.Intn(3)
	c := w.Edge(i)
	switch p := rnd.Intn(100); {
	case p < 20:
		w.Send(i, server)
	case p < 50:
		w.Deliver(rnd.Intn(8))
	case p < 54:
		w.Drop(rnd.Intn(8))
	case p < 58:
		w.Twice(rnd.Intn(8))
	case p < 70:
		c.Do(api.Op{Coll: rnd.Intn(3), Kind: 1 + rnd.Intn(5), Key: []string{"x", "y"}[rnd.Intn(2)], Text: strconv.Itoa(step % 9), N: rnd.Intn(7) - 3})
	case p < 73:
		c.Register()
	case p < 76:
		c.Checkout([]api.Want{{Key: "x", Up: rnd.Intn(4), Down: rnd.Intn(4)}, {Key: "y", Up: rnd.Intn(30), Ids: rnd.Intn(5)}}, 1+rnd.Intn(40))
	case p < 78:
		c.Close()
	case p < 81:
		w.Clock(rnd.Intn(12), []int{rnd.Intn(5) - 2, rnd.Intn(5) - 2})
	case p < 83:
		w.Crash(i, rnd.Intn(99))
	case p < 86:
		w.Reclaim(i)
	case p == 86 && rnd.Intn(3) == 0:
		w.Lose(i)
	case p < 89:
		w.Group().Deliver(rnd.Intn(5))
	case p == 90:
		w.Group().Drop(rnd.Intn(5))
	case p == 91:
		w.Group().Twice(rnd.Intn(5))
	case p == 92 && rnd.Intn(4) == 0:
		w.Group().Crash(server)
	case p < 96:
		w.Group().Wake(server)
	default:
		w.Group().Calm(1)
	}
}

// Whatever happens, the invariants hold; and after Sync, all have all.
func TestP2006(t *testing.T) {
	for seed := range 10 {
		rnd := rand.New(rand.NewSource(int64(seed)))
		w := running(t, 1+seed%6)
		for step := range 1500 {
			anything(rnd, w, step)
			if step%5 == 0 {
				sound(t, w)
			}
		}
		for i := range 3 {
			w.Group().Wake(i)
		}
		rounds := 100 + len(w.Group().Desk(0).Log)
		for i := range clients(w) {
			rounds += len(w.Edge(i).State().Pending)
		}
		for ; rounds > 0; rounds -= 200 {
			w.Sync(rounds)
		}
		sound(t, w)
		even(t, w)
	}
}

func TestP3SameCallsSameResults(t *testing.T) {
	run := func() *world.World {
		rnd := rand.New(rand.NewSource(7))
		w := running(t, 3)
		for step := range 800 {
			anything(rnd, w, step)
		}
		return w
	}
	v, w := run(), run()
	for i := range 3 {
		a, _ := v.Group().Node(i)
		b, _ := w.Group().Node(i)
		if !replica.Same(a, b) || !local.Same(v.Edge(i).State(), w.Edge(i).State()) || v.Under() != w.Under() {
			t.Fatal("two runs differ")
		}
	}
}
