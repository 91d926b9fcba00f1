package audit

import (
	"math/rand"
	"slices"
	"strconv"
	"testing"

	"escrow/api"
	"escrow/plain"
	"escrow/world"
)

func start(t *testing.T, clients int) *world.World {
	t.Helper()
	w, e := world.New([]api.Counter{{Key: "x", Hi: 20, Start: 10}, {Key: "y", Coll: 1, Lo: -100, Hi: 100}}, 50, clients)
	if e != api.OK {
		t.Fatal(e)
	}
	return w
}

func ok(t *testing.T, l ...api.Errno) {
	t.Helper()
	for i, e := range l {
		if e != api.OK {
			t.Fatalf("call %d: %v", i, e)
		}
	}
}

// running is a world of two clients with leases.
func running(t *testing.T) *world.World {
	t.Helper()
	w := start(t, 2)
	ok(t, w.Edge(0).Register(), w.Edge(1).Register())
	w.Sync(40)
	for i := range 2 {
		ok(t, w.Edge(i).Checkout([]api.Want{{Key: "x", Up: 5, Down: 5}, {Key: "y", Up: 9, Ids: 5}}, 100))
	}
	w.Sync(3)
	return w
}

func count(key string, n, coll int) api.Op {
	return api.Op{Kind: api.KCount, Key: key, N: n, Coll: coll}
}

func bind(id int) api.Op { return api.Op{Kind: api.KBind, N: id} }

func TestP2101New(t *testing.T) {
	w := start(t, 3)
	if !slices.Equal(Values(w), []int{10, 0}) || !Kept(w) || !Even(w) {
		t.Error(Values(w), Kept(w), Even(w))
	}
}

func TestP2101Values(t *testing.T) {
	w := running(t)
	ok(t, w.Edge(0).Do(count("x", 3, 0)), w.Edge(0).Do(count("x", -1, 2)), w.Edge(1).Do(count("y", 4, 0)), w.Edge(1).Do(bind(7)))
	if !slices.Equal(Values(w), []int{12, 4}) || !Kept(w) || Even(w) {
		t.Error("pending operations", Values(w))
	}
	w.Send(0, 0)
	w.Deliver(0) // included, and the client does not know it yet
	if len(w.Group().Desk(0).Log) != 2 || !slices.Equal(Values(w), []int{12, 4}) {
		t.Error("both pending and included", Values(w))
	}
	w.Sync(10)
	if !slices.Equal(Values(w), []int{12, 4}) || !Kept(w) || !Even(w) {
		t.Error("included operations", Values(w))
	}
	ok(t, w.Edge(0).Do(count("x", 1, 0)), w.Edge(1).Do(count("x", 1, 0)), w.Lose(1))
	if !slices.Equal(Values(w), []int{13, 4}) || !Kept(w) {
		t.Error("of a lost epoch that are not included", Values(w))
	}
}

func TestP2101BestDesk(t *testing.T) {
	w := running(t)
	w.Group().Crash(2)
	ok(t, w.Edge(0).Do(count("x", 3, 0)))
	w.Sync(5)
	w.Group().Crash(0)
	w.Group().Wake(2)
	if n, _ := w.Group().Node(0); n.Commit == 0 {
		t.Fatal(n)
	}
	if !slices.Equal(Values(w), []int{13, 0}) || Even(w) {
		t.Error("a server that is down knows best, and one that is up lags", Values(w))
	}
	w.Group().Crash(1)
	w.Group().Crash(2)
	if !Even(w) {
		t.Error("no server is up")
	}
}

func TestP2101Even(t *testing.T) {
	w := running(t)
	w.Sync(5)
	if !Even(w) {
		t.Fatal("after Sync")
	}
	ok(t, w.Edge(1).Do(api.Op{Kind: api.KSet, Key: "k"}))
	if Even(w) {
		t.Error("an operation is pending")
	}
	w.Send(1, 0)
	w.Deliver(0)
	w.Group().Calm(5)
	w.Deliver(0)
	if Even(w) {
		t.Error("an operation has not been read")
	}
	w.Sync(5)
	if !Even(w) {
		t.Error("all has been read")
	}
	ok(t, w.Edge(1).Do(api.Op{Kind: api.KSet, Key: "k"}), w.Lose(1))
	w.Group().Calm(5)
	if !Even(w) {
		t.Error("of a client whose epoch is lost, nothing is asked")
	}
	w.Sync(5)
	if !w.Edge(1).State().Fenced || !Even(w) {
		t.Error("of a client that is fenced, nothing is asked")
	}
}

// A view that is not as it must be.
func TestP2101Broken(t *testing.T) {
	w := running(t)
	ok(t, w.Edge(0).Do(count("x", 3, 0)), w.Edge(0).Do(bind(2)), w.Edge(1).Do(bind(5)))
	w.Sync(10)
	ok(t, w.Edge(0).Do(bind(3)), w.Edge(0).Do(count("x", -1, 0)))
	kept := func(change func(v *view)) bool {
		v := look(w)
		v.best = plain.Desk(v.best)
		change(&v)
		return v.all(view.inBounds, view.boundOnce, view.sound)
	}
	if !kept(func(*view) {}) || !Kept(w) {
		t.Fatal("as it is")
	}
	for i, change := range []func(v *view){
		func(v *view) { v.best.Log[0].N = 12 },
		func(v *view) { v.best.Log[0].N = -10 },
		func(v *view) { v.clients[0].Pending[1].N = -14 },
		func(v *view) { v.clients[0].Pending[0].N = 2 },
		func(v *view) { v.clients[0].Pending[0].N = 5 },
		func(v *view) { v.best.Log[1].N = 5 },
		func(v *view) { v.best.Book.Counters[0].Up = 99 },
		func(v *view) { v.best.Book.Bound = []int{40} },
	} {
		if kept(change) {
			t.Errorf("change %d is not seen", i)
		}
	}
	if !kept(func(v *view) { v.clients[0].Pending[0].N = 2; v.best.Lost = []api.Entry{{Device: 0, Epoch: 1}} }) {
		t.Error("what is pending of a lost epoch does not count")
	}
}

// Whatever happens to a world, Kept is true.
func TestP2102(t *testing.T) {
	for seed := range 6 {
		rnd := rand.New(rand.NewSource(int64(seed)))
		w := running(t)
		for step := range 1200 {
			i := rnd.Intn(2)
			c := w.Edge(i)
			switch rnd.Intn(16) {
			case 0, 1, 2:
				w.Send(i, rnd.Intn(3))
			case 3, 4, 5:
				w.Deliver(rnd.Intn(6))
			case 6:
				w.Twice(rnd.Intn(6))
			case 7, 8, 9:
				c.Do(api.Op{Coll: rnd.Intn(3), Kind: 3 + rnd.Intn(3), Key: []string{"x", "y"}[rnd.Intn(2)], Text: strconv.Itoa(step), N: rnd.Intn(9) - 4})
			case 10:
				c.Checkout([]api.Want{{Key: "x", Up: rnd.Intn(6), Down: rnd.Intn(6), Ids: 3}}, 1+rnd.Intn(30))
			case 11:
				c.Close()
				w.Clock(rnd.Intn(30), []int{rnd.Intn(3) - 1})
				w.Reclaim(i)
			case 12:
				w.Crash(i, rnd.Intn(9))
				c = w.Edge(i)
				c.Register()
			case 13:
				if rnd.Intn(9) == 0 {
					w.Lose(i)
				}
				w.Group().Crash(rnd.Intn(3))
			default:
				w.Group().Wake(rnd.Intn(3))
				w.Group().Calm(1)
			}
			if !Kept(w) {
				t.Fatalf("seed %d, step %d", seed, step)
			}
		}
	}
}
