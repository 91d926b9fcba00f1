package desk_test

import (
	"math"
	"math/rand"
	"reflect"
	"slices"
	"testing"

	"escrow/api"
	"escrow/coll"
	"escrow/desk"
	"escrow/ledger"
	"escrow/ops"
	"escrow/plain"
)

func start(t *testing.T) api.Desk {
	t.Helper()
	d, e := desk.New([]api.Counter{{Key: "x", Hi: 20, Start: 10}, {Key: "y", Coll: 1, Lo: -100, Hi: 100}}, 50)
	if e != api.OK {
		t.Fatal(e)
	}
	return d
}

// do executes commands that must not fail, and tells the last reply.
func do(t *testing.T, d api.Desk, l ...api.Cmd) (api.Desk, api.Reply) {
	t.Helper()
	var r api.Reply
	for _, c := range l {
		before := plain.Desk(d)
		next, reply := desk.Do(d, c)
		if reply.Err != api.OK {
			t.Fatalf("%v: %v", c, reply.Err)
		}
		if !desk.Same(d, before) {
			t.Fatal("Do changed its argument")
		}
		d, r = next, reply
	}
	return d, r
}

// refuses executes a command that must fail and change nothing, but for the record of a request.
func refuses(t *testing.T, d api.Desk, c api.Cmd, want api.Errno, recorded bool) {
	t.Helper()
	next, r := desk.Do(d, c)
	if !plain.SameReply(r, api.Reply{Err: want}) {
		t.Errorf("%v: %v, not %v", c, r, want)
	}
	expected := plain.Desk(d)
	if recorded {
		expected.Dev[c.Device].Req, expected.Dev[c.Device].Reply = c.Req, api.Reply{Err: want}
	}
	if !desk.Same(next, expected) {
		t.Errorf("%v with %v changed the desk", c, want)
	}
}

func register(device, req int) api.Cmd {
	return api.Cmd{Kind: api.CRegister, Device: device, Req: req}
}

func checkout(device, req, n int, wants ...api.Want) api.Cmd {
	return api.Cmd{Kind: api.CCheckout, Device: device, Epoch: 1, Req: req, N: n, Wants: wants}
}

func merge(device int, l ...api.Op) api.Cmd {
	return api.Cmd{Kind: api.CMerge, Device: device, Epoch: 1, Ops: l}
}

func op(device, seq, kind int, key string, n int) api.Op {
	return api.Op{Dot: api.Dot{Device: device, Epoch: 1, Seq: seq}, Ver: 1, Kind: kind, Key: key, N: n}
}

func TestP1301(t *testing.T) {
	d := start(t)
	b, _ := ledger.New([]api.Counter{{Key: "x", Hi: 20, Start: 10}, {Key: "y", Coll: 1, Lo: -100, Hi: 100}}, 50)
	if !desk.Same(d, api.Desk{Book: b}) {
		t.Errorf("%v", d)
	}
	for want, l := range map[api.Errno][]api.Counter{api.ErrMany: make([]api.Counter, 5), api.ErrArg: {{}}, api.ErrIs: {{Key: "a"}, {Key: "a"}}} {
		if d, e := desk.New(l, 0); e != want || !desk.Same(d, api.Desk{}) {
			t.Errorf("%v: %v", want, e)
		}
	}
}

func TestP1302KindsAndTime(t *testing.T) {
	d, _ := do(t, start(t), api.Cmd{Kind: api.CTime, N: 7, Device: 99}, api.Cmd{Kind: api.CTime, N: 5})
	if d.Now != 7 {
		t.Error(d.Now)
	}
	d, _ = do(t, d, api.Cmd{Kind: api.CTime, N: 1 << 40})
	if d.Now != 1<<40 {
		t.Error(d.Now)
	}
	refuses(t, d, api.Cmd{Kind: api.CTime, N: 1<<40 + 1}, api.ErrArg, false)
	refuses(t, d, api.Cmd{Kind: api.CTime, N: -1}, api.ErrArg, false)
	for _, kind := range []int{0, 8, -1, math.MaxInt} {
		refuses(t, d, api.Cmd{Kind: kind, Device: 9}, api.ErrKind, false)
	}
	for kind := api.CRegister; kind < api.CTime; kind++ {
		refuses(t, d, api.Cmd{Kind: kind, Device: 6}, api.ErrArg, false)
		refuses(t, d, api.Cmd{Kind: kind, Device: -1}, api.ErrArg, false)
	}
}

func TestP1302Edges(t *testing.T) {
	d, _ := do(t, start(t), api.Cmd{Kind: api.CTime, N: 0}, register(5, 1), register(0, 1<<30))
	d, r := do(t, d, checkout(5, 2, 1, api.Want{Key: "x", Up: 10, Down: 10}))
	if r.Lease.Until != 1 || d.Now != 0 {
		t.Errorf("%+v", r)
	}
	d, _ = do(t, d, api.Cmd{Kind: api.CClose, Device: 5, Epoch: 1, Req: 3, N: 1 << 30})
	if l, _ := ledger.Find(d.Book, 5, 1); l.Last != 1<<30 {
		t.Errorf("%+v", l)
	}
	d, _ = do(t, d, api.Cmd{Kind: api.CClose, Device: 5, Epoch: 1, Req: 4}, api.Cmd{Kind: api.CTime, N: 6}, api.Cmd{Kind: api.CReclaim, Device: 5})
	if n := ledger.Totals(d.Book, "x"); n != [6]int{10, 0, 0, 10, 0, 0} {
		t.Errorf("%v", n)
	}
}

func TestP1302Requests(t *testing.T) {
	d := start(t)
	for _, kind := range []int{api.CRegister, api.CCheckout, api.CClose} {
		for _, req := range []int{0, -1, 1<<30 + 1} {
			refuses(t, d, api.Cmd{Kind: kind, Req: req}, api.ErrArg, false)
		}
	}
	refuses(t, d, api.Cmd{Kind: api.CClose, Req: 3}, api.ErrNone, true)
	d, r := do(t, d, register(2, 5))
	if r.N != 1 || d.Dev[2].Epoch != 1 || d.Dev[2].Req != 5 {
		t.Errorf("%v, %v", r, d.Dev[2])
	}
	d, r = do(t, d, api.Cmd{Kind: api.CClose, Device: 2, Req: 5, Epoch: 9})
	if r.N != 1 || d.Dev[2].Epoch != 1 {
		t.Errorf("a repeated request: %v", r)
	}
	refuses(t, d, register(2, 4), api.ErrIs, false)
	refuses(t, d, register(2, 6), api.ErrIs, true)
	failed, _ := desk.Do(d, register(2, 6))
	refuses(t, failed, checkout(2, 6, 10), api.ErrIs, false)
	d, r = do(t, failed, checkout(2, 1<<30, 10, api.Want{Key: "x", Up: 2}))
	first := plain.Reply(r)
	r.Lease.Slices[0].Up = 9
	d, r = do(t, d, register(2, 1<<30))
	if !plain.SameReply(r, first) {
		t.Errorf("%v, not %v", r, first)
	}
}

func TestP1302Register(t *testing.T) {
	d, _ := do(t, start(t), register(0, 1), api.Cmd{Kind: api.CLose, Device: 0})
	d, r := do(t, d, register(0, 2))
	if r.N != 2 || d.Dev[0].Epoch != 2 {
		t.Errorf("%v", r)
	}
	d.Dev[0].Epoch = 1 << 20
	d.Lost = append(d.Lost, api.Entry{Device: 0, Epoch: 1 << 20})
	refuses(t, d, register(0, 3), api.ErrOver, true)
	d.Lost = nil
	refuses(t, d, register(0, 3), api.ErrIs, true)
}

func TestP1302Fence(t *testing.T) {
	d, _ := do(t, start(t), register(1, 1))
	commands := func(epoch int) []api.Cmd {
		return []api.Cmd{{Kind: api.CCheckout, Device: 1, Req: 9, Epoch: epoch}, {Kind: api.CMerge, Device: 1, Epoch: epoch, Ops: make([]api.Op, 21)}, {Kind: api.CClose, Device: 1, Req: 9, Epoch: epoch}}
	}
	all := func(d api.Desk, epoch, device int, want api.Errno) {
		t.Helper()
		for _, c := range commands(epoch) {
			c.Device = device
			refuses(t, d, c, want, c.Kind != api.CMerge)
		}
	}
	all(d, 2, 1, api.ErrNone)
	all(d, 0, 2, api.ErrNone)
	all(d, -1, 2, api.ErrNone)
	all(d, 0, 1, api.ErrFenced)
	d, _ = do(t, d, api.Cmd{Kind: api.CLose, Device: 1})
	all(d, 1, 1, api.ErrFenced)
	d, _ = do(t, d, register(1, 2))
	all(d, 1, 1, api.ErrFenced)
	all(d, 3, 1, api.ErrNone)
}

func TestP1302Checkout(t *testing.T) {
	d, _ := do(t, start(t), register(0, 1), register(1, 1), api.Cmd{Kind: api.CTime, N: 100})
	for _, n := range []int{0, -1, 1001} {
		refuses(t, d, checkout(0, 2, n, api.Want{Key: "none"}), api.ErrArg, true)
	}
	refuses(t, d, checkout(0, 2, 1000, api.Want{Key: "none"}), api.ErrNone, true)
	refuses(t, d, checkout(0, 2, 1000, api.Want{Key: "x", Up: 11}), api.ErrRights, true)
	d, r := do(t, d, checkout(0, 2, 1000, api.Want{Key: "x", Up: 10, Ids: 4}))
	want := api.Lease{Device: 0, Epoch: 1, Until: 1100, Last: -1, Slices: []api.Slice{{Key: "x", Up: 10}}, Ids: []api.Range{{To: 4}}}
	if got, _ := ledger.Find(d.Book, 0, 1); !plain.SameReply(r, api.Reply{Lease: want}) || !plain.SameLease(got, want) {
		t.Errorf("%v, %v", r, got)
	}
	refuses(t, d, checkout(0, 3, 5), api.ErrOpen, true)
}

func TestP1302Merge(t *testing.T) {
	d, _ := do(t, start(t), register(1, 1))
	refuses(t, d, merge(1, make([]api.Op, 21)...), api.ErrMany, false)
	refuses(t, d, merge(1, make([]api.Op, 20)...), api.ErrArg, false)
	refuses(t, d, merge(1, op(1, 1, api.KSet, "k", 0), op(1, 2, 9, "k", 0)), api.ErrKind, false)
	refuses(t, d, merge(1, op(2, 1, api.KSet, "k", 0)), api.ErrArg, false)
	other := op(1, 1, api.KSet, "k", 0)
	other.Dot.Epoch = 2
	refuses(t, d, merge(1, other), api.ErrArg, false)
	refuses(t, d, merge(1, op(1, 2, api.KSet, "k", 0)), api.ErrGap, false)
	refuses(t, d, merge(1, op(1, 1, api.KSet, "k", 0), op(1, 3, api.KCount, "k", 1)), api.ErrGap, false)
	refuses(t, d, merge(1, op(1, 1, api.KCount, "x", 1)), api.ErrRights, false)
	d, r := do(t, d, merge(1))
	if r.N != 0 {
		t.Error(r)
	}
	d, _ = do(t, d, checkout(1, 2, 5, api.Want{Key: "x", Up: 2, Ids: 2}))
	refuses(t, d, merge(1, op(1, 1, api.KCount, "x", 2), op(1, 2, api.KCount, "x", 1)), api.ErrRights, false)
	refuses(t, d, merge(1, op(1, 1, api.KBind, "", 1), op(1, 2, api.KBind, "", 1)), api.ErrIs, false)
	add := op(1, 2, api.KAdd, "s", 0)
	add.Coll = 2
	d, r = do(t, d, merge(1, op(1, 1, api.KCount, "x", 2), add, op(1, 2, api.KSet, "again", 0), op(1, 3, api.KBind, "", 0)))
	if r.N != 3 || len(d.Log) != 3 || coll.Count(d.Colls[0], "x") != 2 || len(d.Colls[2].Elems) != 1 || len(d.Colls[0].Binds) != 1 || len(d.Colls[0].Regs) != 0 {
		t.Errorf("%v, %v", r, d.Log)
	}
	if l, _ := ledger.Find(d.Book, 1, 1); l.Slices[0].UsedUp != 2 || !slices.Equal(l.Used, []int{0}) {
		t.Errorf("%v", l)
	}
	again, r := do(t, d, merge(1, op(1, 1, api.KCount, "x", 2), add))
	if r.N != 3 || !desk.Same(d, again) {
		t.Errorf("a merge that comes twice: %v", r)
	}
}

func TestP1302MaxOps(t *testing.T) {
	d, _ := do(t, start(t), register(1, 1), checkout(1, 2, 5, api.Want{Key: "x", Up: 1}))
	for range 100 {
		var l []api.Op
		for k := range 20 {
			l = append(l, op(1, len(d.Log)+k+1, api.KSet, "k", 0))
		}
		d, _ = do(t, d, merge(1, l...))
	}
	if len(d.Log) != api.MaxOps {
		t.Fatal(len(d.Log))
	}
	refuses(t, d, merge(1, op(1, 2001, api.KSet, "k", 0)), api.ErrOver, false)
	refuses(t, d, merge(1, op(1, 2001, api.KCount, "x", 2)), api.ErrRights, false)
	refuses(t, d, merge(1, op(1, 2001, api.KCount, "x", 1)), api.ErrOver, false)
	if _, r := do(t, d, merge(1, op(1, 2000, api.KSet, "k", 0))); r.N != 2000 {
		t.Error(r)
	}
}

func TestP1302CloseAndReclaim(t *testing.T) {
	d, _ := do(t, start(t), register(1, 1))
	reclaim := api.Cmd{Kind: api.CReclaim, Device: 1}
	closing := func(req, n int) api.Cmd {
		return api.Cmd{Kind: api.CClose, Device: 1, Epoch: 1, Req: req, N: n}
	}
	refuses(t, d, reclaim, api.ErrNone, false)
	refuses(t, d, api.Cmd{Kind: api.CReclaim, Device: 2}, api.ErrNone, false)
	refuses(t, d, closing(2, -5), api.ErrNone, true)
	d, _ = do(t, d, checkout(1, 2, 10, api.Want{Key: "x", Up: 5}), merge(1, op(1, 1, api.KCount, "x", 1)))
	refuses(t, d, reclaim, api.ErrOpen, false)
	refuses(t, d, closing(3, 0), api.ErrArg, true)
	refuses(t, d, closing(3, 1<<30+1), api.ErrArg, true)
	d, r := do(t, d, closing(3, 2))
	if l, _ := ledger.Find(d.Book, 1, 1); l.Last != 2 || !plain.SameReply(r, api.Reply{}) {
		t.Errorf("%v, %v", l, r)
	}
	refuses(t, d, reclaim, api.ErrGap, false)
	d, _ = do(t, d, merge(1, op(1, 2, api.KCount, "x", 1)), api.Cmd{Kind: api.CTime, N: 14})
	refuses(t, d, reclaim, api.ErrEarly, false)
	d, _ = do(t, d, api.Cmd{Kind: api.CTime, N: 15})
	d, r = do(t, d, reclaim)
	if _, ok := ledger.Find(d.Book, 1, 1); ok || ledger.Totals(d.Book, "x")[0] != 8 || !plain.SameReply(r, api.Reply{}) {
		t.Errorf("%v, %v", d.Book, r)
	}
	refuses(t, d, reclaim, api.ErrNone, false)
	refuses(t, d, merge(1, op(1, 3, api.KCount, "x", 1)), api.ErrRights, false)
}

func TestP1302Lose(t *testing.T) {
	d := start(t)
	lose := api.Cmd{Kind: api.CLose, Device: 1}
	refuses(t, d, lose, api.ErrNone, false)
	d, _ = do(t, d, register(1, 1), checkout(1, 2, 10, api.Want{Key: "x", Up: 5, Ids: 3}), merge(1, op(1, 1, api.KCount, "x", 2), op(1, 2, api.KBind, "", 1)))
	d, r := do(t, d, lose)
	if !plain.SameReply(r, api.Reply{N: 2}) || !slices.Equal(d.Lost, []api.Entry{{Device: 1, Epoch: 1, Seq: 2}}) || len(d.Book.Leases) != 0 || ledger.Totals(d.Book, "x") != [6]int{8, 0, 2, 10, 0, 0} {
		t.Errorf("%v, %v", r, d)
	}
	refuses(t, d, lose, api.ErrIs, false)
	d, _ = do(t, d, register(1, 3))
	d, r = do(t, d, lose)
	if r.N != 0 || len(d.Lost) != 2 {
		t.Errorf("%v, %v", r, d.Lost)
	}
}

func TestP1303Delta(t *testing.T) {
	d, _ := do(t, start(t), register(0, 1))
	for i := range 6 { // collections 0 1 2 0 1 2
		o := op(0, i+1, api.KSet, "k", 0)
		o.Coll = i % 3
		d, _ = do(t, d, merge(0, o))
	}
	all, some := []bool{true, true, true, true}, []bool{false, true}
	for i, c := range []struct {
		from int
		subs []bool
		n    int
		want []int
		next int
	}{
		{0, all, 4, []int{1, 2, 3, 4}, 4},
		{4, all, 4, []int{5, 6}, 6},
		{-3, all, 2, []int{1, 2}, 2},
		{0, all, 6, []int{1, 2, 3, 4, 5, 6}, 6},
		{0, some, 1, []int{2}, 2},
		{2, some, 1, []int{5}, 5},
		{2, some, 2, []int{5}, 6},
		{0, some, 2, []int{2, 5}, 5},
		{0, nil, 2, nil, 6},
		{6, all, 2, nil, 6},
		{math.MaxInt, all, 2, nil, 6},
		{3, all, 0, nil, 3},
		{3, all, -1, nil, 3},
		{9, all, 0, nil, 6},
		{-9, all, 0, nil, 0},
		{0, []bool{false, false, false, true}, 9, nil, 6},
		{0, []bool{false, false, true}, math.MaxInt, []int{3, 6}, 6},
	} {
		l, next := desk.Delta(d, c.from, c.subs, c.n)
		var seqs []int
		for _, o := range l {
			seqs = append(seqs, o.Dot.Seq)
		}
		if !slices.Equal(seqs, c.want) || next != c.next {
			t.Errorf("%d: %v, %d", i, seqs, next)
		}
	}
}

func TestP1303Same(t *testing.T) {
	d, _ := do(t, start(t), register(1, 1), checkout(1, 2, 5, api.Want{Key: "x", Up: 1}), merge(1, op(1, 1, api.KSet, "k", 0)), api.Cmd{Kind: api.CLose, Device: 1})
	for i, change := range []func(d *api.Desk){
		func(d *api.Desk) { d.Now++ }, func(d *api.Desk) { d.Book.Free = nil }, func(d *api.Desk) { d.Colls[0].V = nil },
		func(d *api.Desk) { d.Log[0].Time++ }, func(d *api.Desk) { d.Dev[1].Epoch++ }, func(d *api.Desk) { d.Dev[5].Req++ },
		func(d *api.Desk) { d.Dev[1].Reply.Lease.Slices[0].Up++ }, func(d *api.Desk) { d.Lost[0].Seq++ },
	} {
		c := plain.Desk(d)
		if !desk.Same(c, d) || !reflect.DeepEqual(c, plain.Desk(d)) {
			t.Fatal("a copy differs")
		}
		change(&c)
		if desk.Same(c, d) {
			t.Errorf("change %d is not seen", i)
		}
	}
}

// After any commands: bounds hold, the book is sound, each operation is there once and in order.
func TestP1304(t *testing.T) {
	rnd := rand.New(rand.NewSource(1))
	d := start(t)
	var req [6]int
	for range 6000 {
		device := rnd.Intn(3)
		c := api.Cmd{Kind: 1 + rnd.Intn(8), Device: device, Epoch: d.Dev[device].Epoch - rnd.Intn(8)/7, N: 1 + rnd.Intn(9)}
		if rnd.Intn(3) > 0 {
			c.Kind = api.CMerge
		}
		switch c.Kind {
		case api.CTime:
			c.N = d.Now + rnd.Intn(9)
		case api.CLose:
			if rnd.Intn(3) > 0 {
				continue
			}
		case api.CCheckout:
			c.Wants = []api.Want{{Key: "x", Up: rnd.Intn(4), Down: rnd.Intn(4), Ids: rnd.Intn(4)}, {Key: "y", Up: rnd.Intn(30)}}
		case api.CClose:
			c.N = rnd.Intn(30)
		case api.CMerge:
			last := 0
			for _, o := range d.Log {
				if o.Dot.Device == device && o.Dot.Epoch == c.Epoch {
					last = o.Dot.Seq
				}
			}
			for i := range 1 + rnd.Intn(3) {
				o := op(device, max(1, last+i+rnd.Intn(3)-rnd.Intn(2)), 1+rnd.Intn(5), []string{"x", "y"}[rnd.Intn(2)], rnd.Intn(5)-2)
				o.Dot.Epoch = c.Epoch
				c.Ops = append(c.Ops, o)
			}
		}
		if c.Kind == api.CRegister || c.Kind == api.CCheckout || c.Kind == api.CClose {
			req[device] += rnd.Intn(2)
			c.Req = req[device]
		}
		d, _ = desk.Do(d, c)
		check(t, d)
	}
	if len(d.Log) < 100 || len(d.Lost) < 3 || len(d.Book.Bound) == 0 {
		t.Errorf("little has happened: %d operations, %d lost, %v", len(d.Log), len(d.Lost), d.Book.Bound)
	}
}

func check(t *testing.T, d api.Desk) {
	t.Helper()
	if !ledger.Sound(d.Book) {
		t.Fatalf("%v", d.Book)
	}
	for _, c := range d.Book.Counters {
		if v := c.Start + coll.Count(d.Colls[c.Coll], c.Key); v < c.Lo || v > c.Hi {
			t.Fatalf("%s is %d", c.Key, v)
		}
	}
	seqs, ids := map[[2]int]int{}, map[int]int{}
	for _, o := range d.Log {
		k := [2]int{o.Dot.Device, o.Dot.Epoch}
		seqs[k]++
		if o.Dot.Seq != seqs[k] || ops.Check(o) != api.OK {
			t.Fatalf("%v is number %d", o, seqs[k])
		}
		if o.Kind == api.KBind {
			ids[o.N]++
			if ids[o.N] > 1 {
				t.Fatalf("%d is bound twice", o.N)
			}
		}
	}
}
