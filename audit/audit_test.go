package audit_test

import (
	"math/rand"
	"slices"
	"strconv"
	"testing"

	"escrow/api"
	"escrow/audit"
	"escrow/wire"
	"escrow/world"
)

func start(t *testing.T, clients int) *world.World {
	t.Helper()
	w, e := world.New([]api.Counter{{Key: "x", Hi: 20, Start: 10}, {Key: "y", Coll: 1, Lo: -100, Hi: 100}}, 50, clients)
	if e != api.OK {
		t.Fatal(e)
	}
	return w
}

func ok(t *testing.T, l ...api.Errno) {
	t.Helper()
	for i, e := range l {
		if e != api.OK {
			t.Fatalf("call %d: %v", i, e)
		}
	}
}

// running is a world of two clients with leases.
func running(t *testing.T) *world.World {
	t.Helper()
	w := start(t, 2)
	ok(t, w.Edge(0).Register(), w.Edge(1).Register())
	w.Sync(40)
	for i := range 2 {
		ok(t, w.Edge(i).Checkout([]api.Want{{Key: "x", Up: 5, Down: 5}, {Key: "y", Up: 9, Ids: 5}}, 100))
	}
	w.Sync(3)
	return w
}

func count(key string, n, coll int) api.Op {
	return api.Op{Kind: api.KCount, Key: key, N: n, Coll: coll}
}

func bind(id int) api.Op { return api.Op{Kind: api.KBind, N: id} }

func TestP2101New(t *testing.T) {
	w := start(t, 3)
	if !slices.Equal(audit.Values(w), []int{10, 0}) || !audit.Kept(w) || !audit.Even(w) {
		t.Error(audit.Values(w), audit.Kept(w), audit.Even(w))
	}
}

func TestP2101Values(t *testing.T) {
	w := running(t)
	ok(t, w.Edge(0).Do(count("x", 3, 0)), w.Edge(0).Do(count("x", -1, 2)), w.Edge(1).Do(count("y", 4, 0)), w.Edge(1).Do(bind(7)))
	if !slices.Equal(audit.Values(w), []int{12, 4}) || !audit.Kept(w) || audit.Even(w) {
		t.Error("pending operations", audit.Values(w))
	}
	w.Send(0, 0)
	w.Deliver(0) // included, and the client does not know it yet
	if len(w.Group().Desk(0).Log) != 2 || !slices.Equal(audit.Values(w), []int{12, 4}) {
		t.Error("both pending and included", audit.Values(w))
	}
	w.Sync(10)
	if !slices.Equal(audit.Values(w), []int{12, 4}) || !audit.Kept(w) || !audit.Even(w) {
		t.Error("included operations", audit.Values(w))
	}
	ok(t, w.Edge(0).Do(count("x", 1, 0)), w.Edge(1).Do(count("x", 1, 0)), w.Lose(1))
	if !slices.Equal(audit.Values(w), []int{13, 4}) || !audit.Kept(w) {
		t.Error("of a lost epoch that are not included", audit.Values(w))
	}
}

func TestP2101BestDesk(t *testing.T) {
	w := running(t)
	w.Group().Crash(2)
	ok(t, w.Edge(0).Do(count("x", 3, 0)))
	w.Sync(5)
	w.Group().Crash(0)
	w.Group().Wake(2)
	if n, _ := w.Group().Node(0); n.Commit == 0 {
		t.Fatal(n)
	}
	if !slices.Equal(audit.Values(w), []int{13, 0}) || audit.Even(w) {
		t.Error("a server that is down knows best, and one that is up lags", audit.Values(w))
	}
	w.Group().Crash(1)
	w.Group().Crash(2)
	if !audit.Even(w) {
		t.Error("no server is up")
	}
}

// The server that knows best is not always the first one, nor one that is up.
func TestP2101BestIsNotFirst(t *testing.T) {
	w := running(t)
	w.Group().Crash(0)
	w.Sync(60)
	ok(t, w.Edge(0).Do(count("x", 3, 0)), w.Edge(1).Do(bind(7)))
	w.Sync(9)
	if len(w.Edge(0).State().Pending) > 0 || !slices.Equal(audit.Values(w), []int{13, 0}) || !audit.Even(w) {
		t.Error(audit.Values(w), audit.Even(w))
	}
	w.Group().Wake(0)
	if !slices.Equal(audit.Values(w), []int{13, 0}) || audit.Even(w) || !audit.Kept(w) {
		t.Error("server 0 lags", audit.Values(w))
	}
	w.Sync(9)
	if !slices.Equal(audit.Values(w), []int{13, 0}) || !audit.Even(w) {
		t.Error("server 0 has caught up", audit.Values(w))
	}
}

func TestP2101Even(t *testing.T) {
	w := running(t)
	w.Sync(5)
	if !audit.Even(w) {
		t.Fatal("after Sync")
	}
	ok(t, w.Edge(1).Do(api.Op{Kind: api.KSet, Key: "k"}))
	if audit.Even(w) {
		t.Error("an operation is pending")
	}
	w.Send(1, 0)
	w.Deliver(0)
	w.Group().Calm(5)
	w.Deliver(0)
	if audit.Even(w) {
		t.Error("an operation has not been read")
	}
	w.Sync(5)
	if !audit.Even(w) {
		t.Error("all has been read")
	}
	ok(t, w.Edge(1).Do(api.Op{Kind: api.KSet, Key: "k"}), w.Lose(1))
	w.Group().Calm(5)
	if !audit.Even(w) {
		t.Error("of a client whose epoch is lost, nothing is asked")
	}
	w.Sync(5)
	if !w.Edge(1).State().Fenced || !audit.Even(w) {
		t.Error("of a client that is fenced, nothing is asked")
	}
}

// forge gives a client a lease that no server has given.
func forge(t *testing.T, w *world.World, i int, l api.Lease) {
	t.Helper()
	c := w.Edge(i)
	ok(t, c.Register())
	s := c.State()
	l.Device, l.Epoch, l.Last = i, 1, -1
	for _, r := range []api.Reply{{N: 1}, {Lease: l}} {
		b, _ := wire.Bytes(wire.Msg{Kind: wire.MReply, Device: i, Req: s.Req, Reply: r})
		ok(t, c.Take(b))
		if r.N == 1 {
			ok(t, c.Checkout(nil, 100))
			s = c.State()
		}
	}
}

// Clients that spend what nobody has given them.
func TestP2101NotKept(t *testing.T) {
	rights := api.Lease{Slices: []api.Slice{{Key: "x", Up: 50, Down: 50}, {Key: "y", Up: 500, Down: 500}}, Ids: []api.Range{{To: 9}}}
	for i, c := range []struct {
		l      []api.Op
		values []int
		kept   bool
	}{
		{[]api.Op{count("x", 10, 0)}, []int{20, 0}, true},
		{[]api.Op{count("x", 11, 0)}, []int{21, 0}, false},
		{[]api.Op{count("x", -10, 0)}, []int{0, 0}, true},
		{[]api.Op{count("x", -11, 0)}, []int{-1, 0}, false},
		{[]api.Op{count("x", 11, 0), count("x", -1, 2)}, []int{20, 0}, true},
		{[]api.Op{count("y", 101, 1)}, []int{10, 101}, false},
		{[]api.Op{count("y", -101, 0)}, []int{10, -101}, false},
		{[]api.Op{bind(3), bind(4)}, []int{10, 0}, true},
	} {
		w := start(t, 2)
		forge(t, w, 1, rights)
		for _, o := range c.l {
			ok(t, w.Edge(1).Do(o))
		}
		if !slices.Equal(audit.Values(w), c.values) || audit.Kept(w) != c.kept {
			t.Errorf("%d: %v, %v", i, audit.Values(w), audit.Kept(w))
		}
	}
	w := start(t, 2)
	forge(t, w, 0, rights)
	forge(t, w, 1, rights)
	ok(t, w.Edge(0).Do(bind(3)), w.Edge(1).Do(bind(4)), w.Edge(1).Do(count("x", 6, 0)))
	if !audit.Kept(w) {
		t.Error("two identifiers")
	}
	ok(t, w.Edge(1).Do(bind(3)))
	if audit.Kept(w) {
		t.Error("one identifier, bound twice")
	}
	w = start(t, 2)
	forge(t, w, 0, rights)
	forge(t, w, 1, rights)
	ok(t, w.Edge(0).Do(count("x", 6, 0)), w.Edge(1).Do(count("x", 6, 0)))
	if audit.Kept(w) || !slices.Equal(audit.Values(w), []int{22, 0}) {
		t.Error("both together")
	}
}

// An identifier that is bound in the log, and once more by what is pending.
func TestP2101BoundInTheLog(t *testing.T) {
	w := start(t, 2)
	ok(t, w.Edge(0).Register())
	w.Sync(40)
	ok(t, w.Edge(0).Checkout([]api.Want{{Ids: 5}}, 100))
	w.Sync(2)
	ok(t, w.Edge(0).Do(bind(2)))
	w.Sync(5)
	forge(t, w, 1, api.Lease{Ids: []api.Range{{To: 9}}})
	ok(t, w.Edge(1).Do(bind(1)))
	if !audit.Kept(w) {
		t.Error("another identifier")
	}
	ok(t, w.Edge(1).Do(bind(2)))
	if audit.Kept(w) {
		t.Error("the same identifier")
	}
}

// Whatever happens to a world, Kept is true.
func TestP2102(t *testing.T) {
	for seed := range 6 {
		rnd := rand.New(rand.NewSource(int64(seed)))
		w := running(t)
		for step := range 1200 {
			i := rnd.Intn(2)
			c := w.Edge(i)
			switch rnd.Intn(16) {
			case 0, 1, 2:
				w.Send(i, rnd.Intn(3))
			case 3, 4, 5:
				w.Deliver(rnd.Intn(6))
			case 6:
				w.Twice(rnd.Intn(6))
			case 7, 8, 9:
				c.Do(api.Op{Coll: rnd.Intn(3), Kind: 3 + rnd.Intn(3), Key: []string{"x", "y"}[rnd.Intn(2)], Text: strconv.Itoa(step), N: rnd.Intn(9) - 4})
			case 10:
				c.Checkout([]api.Want{{Key: "x", Up: rnd.Intn(6), Down: rnd.Intn(6), Ids: 3}}, 1+rnd.Intn(30))
			case 11:
				c.Close()
				w.Clock(rnd.Intn(30), []int{rnd.Intn(3) - 1})
				w.Reclaim(i)
			case 12:
				w.Crash(i, rnd.Intn(9))
				c = w.Edge(i)
				c.Register()
			case 13:
				if rnd.Intn(9) == 0 {
					w.Lose(i)
				}
				w.Group().Crash(rnd.Intn(3))
			default:
				w.Group().Wake(rnd.Intn(3))
				w.Group().Calm(1)
			}
			if !audit.Kept(w) {
				t.Fatalf("seed %d, step %d", seed, step)
			}
		}
	}
}
