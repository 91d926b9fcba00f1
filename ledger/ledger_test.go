package ledger_test

import (
	"math"
	"math/rand"
	"reflect"
	"slices"
	"strings"
	"testing"

	"escrow/api"
	"escrow/ledger"
	"escrow/plain"
)

const big = 1 << 40

func counters() []api.Counter {
	return []api.Counter{{Key: "a", Lo: 0, Hi: 10, Start: 4, Up: 99, Down: 99}, {Key: "b", Coll: 2, Lo: -big, Hi: big, Start: 0}}
}

func start(t *testing.T) api.Book {
	t.Helper()
	b, e := ledger.New(counters(), 100)
	if e != api.OK {
		t.Fatal(e)
	}
	return b
}

func grant(t *testing.T, b api.Book, device int, wants ...api.Want) (api.Book, api.Lease) {
	t.Helper()
	b, l, e := ledger.Grant(b, device, 1, 50, wants)
	if e != api.OK {
		t.Fatal(e)
	}
	return b, l
}

func TestP1201New(t *testing.T) {
	b := start(t)
	want := api.Book{Counters: []api.Counter{{Key: "a", Hi: 10, Start: 4, Up: 6, Down: 4}, {Key: "b", Coll: 2, Lo: -big, Hi: big, Up: big, Down: big}}, Free: []api.Range{{To: 100}}}
	if !ledger.Same(b, want) {
		t.Errorf("%v", b)
	}
	if b, e := ledger.New(nil, 0); e != api.OK || !ledger.Same(b, api.Book{}) {
		t.Errorf("%v, %v", b, e)
	}
	for i, c := range []struct {
		l    []api.Counter
		ids  int
		want api.Errno
	}{
		{make([]api.Counter, 5), 0, api.ErrMany},
		{make([]api.Counter, 4), 0, api.ErrArg},
		{[]api.Counter{{Key: "\n"}}, 0, api.ErrArg},
		{[]api.Counter{{Key: strings.Repeat("x", 41)}}, 0, api.ErrArg},
		{[]api.Counter{{Key: "a", Coll: 3}}, 0, api.ErrArg},
		{[]api.Counter{{Key: "a", Coll: -1}}, 0, api.ErrArg},
		{[]api.Counter{{Key: "a", Lo: 1, Hi: 2}}, 0, api.ErrArg},
		{[]api.Counter{{Key: "a", Start: 3, Hi: 2}}, 0, api.ErrArg},
		{[]api.Counter{{Key: "a", Lo: -big - 1}}, 0, api.ErrArg},
		{[]api.Counter{{Key: "a", Hi: big + 1}}, 0, api.ErrArg},
		{[]api.Counter{{Key: "a", Hi: math.MaxInt, Lo: math.MinInt}}, 0, api.ErrArg},
		{[]api.Counter{{Key: "a"}, {Key: "a"}, {}}, 0, api.ErrIs},
		{[]api.Counter{{Key: "a"}, {Key: "a", Coll: 3}}, 0, api.ErrArg},
		{[]api.Counter{{Key: "a"}, {Key: "a"}}, -1, api.ErrIs},
		{[]api.Counter{{Key: "a"}, {Key: "b", Lo: 2, Hi: 2, Start: 2}}, 1000, api.OK},
		{nil, -1, api.ErrArg},
		{nil, 1001, api.ErrArg},
	} {
		if b, e := ledger.New(c.l, c.ids); e != c.want || e != api.OK && !ledger.Same(b, api.Book{}) {
			t.Errorf("%d: %v, %v", i, b, e)
		}
	}
}

func TestP1201Find(t *testing.T) {
	b, l := grant(t, start(t), 3, api.Want{Key: "a", Up: 1}, api.Want{Ids: 2})
	if got, ok := ledger.Find(b, 3, 1); !ok || !plain.SameLease(got, l) {
		t.Errorf("%v", got)
	}
	for _, k := range [][2]int{{3, 2}, {2, 1}, {-1, 1}} {
		if got, ok := ledger.Find(b, k[0], k[1]); ok || !reflect.DeepEqual(got, api.Lease{}) {
			t.Errorf("%v: %v", k, got)
		}
	}
	got, _ := ledger.Find(b, 3, 1)
	got.Slices[0].Up, got.Ids[0].To, l.Slices[0].Up = 77, 77, 77
	if again, _ := ledger.Find(b, 3, 1); again.Slices[0].Up != 1 || again.Ids[0].To != 2 {
		t.Error("memory is shared")
	}
}

func TestP1202Grant(t *testing.T) {
	b := start(t)
	b, l := grant(t, b, 3, api.Want{Key: "b", Up: 7, Ids: 2}, api.Want{Ids: 3}, api.Want{Key: "a", Down: 4, Up: 6})
	want := api.Lease{Device: 3, Epoch: 1, Until: 50, Last: -1, Slices: []api.Slice{{Key: "b", Up: 7}, {Key: "a", Up: 6, Down: 4}}, Ids: []api.Range{{To: 5}}}
	if !plain.SameLease(l, want) || !slices.Equal(b.Free, []api.Range{{From: 5, To: 100}}) || b.Counters[0].Up != 0 || b.Counters[0].Down != 0 || b.Counters[1].Up != big-7 {
		t.Errorf("%v, %v", l, b)
	}
	b, _ = grant(t, b, 1, api.Want{Ids: 50})
	b, _ = grant(t, b, 5)
	b, l = grant(t, b, 0, api.Want{Key: "a"})
	if len(l.Slices) != 1 || len(l.Ids) != 0 {
		t.Errorf("%v", l)
	}
	var devices []int
	for _, l := range b.Leases {
		devices = append(devices, l.Device)
	}
	if !slices.Equal(devices, []int{0, 1, 3, 5}) {
		t.Errorf("%v", devices)
	}
}

func TestP1202Errors(t *testing.T) {
	b, _ := grant(t, start(t), 2, api.Want{Key: "a", Up: 2}, api.Want{Ids: 40})
	type wants = []api.Want
	for i, c := range []struct {
		device, epoch, until int
		wants                wants
		want                 api.Errno
	}{
		{6, 1, 1, nil, api.ErrArg},
		{-1, 1, 1, nil, api.ErrArg},
		{0, 0, 1, nil, api.ErrArg},
		{0, 1<<30 + 1, 1, nil, api.ErrArg},
		{0, 1, -1, nil, api.ErrArg},
		{0, 1, 2*big + 1, nil, api.ErrArg},
		{2, 1, 1, make(wants, 6), api.ErrArg},
		{2, 1, 1, wants{{Up: -1}}, api.ErrOpen},
		{2, 2, 1, nil, api.ErrOpen},
		{0, 1 << 30, 2 * big, nil, api.OK},
		{0, 1, 0, wants{{Up: -1}}, api.ErrArg},
		{0, 1, 0, wants{{Key: "b", Up: 2*big + 1}}, api.ErrArg},
		{0, 1, 0, wants{{Key: "b", Up: 2 * big}}, api.ErrRights},
		{0, 1, 0, wants{{Key: "b", Down: 2*big + 1}}, api.ErrArg},
		{0, 1, 0, wants{{Key: "b", Down: -1}}, api.ErrArg},
		{0, 1, 0, wants{{Ids: 51}}, api.ErrArg},
		{0, 1, 0, wants{{Ids: -1}}, api.ErrArg},
		{0, 1, 0, wants{{Key: "c"}}, api.ErrNone},
		{0, 1, 0, wants{{Key: "c", Up: -1}}, api.ErrArg},
		{0, 1, 0, wants{{Up: 1}}, api.ErrArg},
		{0, 1, 0, wants{{Down: 1}}, api.ErrArg},
		{0, 1, 0, wants{{}, {}}, api.ErrIs},
		{0, 1, 0, wants{{Key: "a"}, {Key: "a"}}, api.ErrIs},
		{0, 1, 0, wants{{Key: "a"}, {Key: "a", Ids: -1}}, api.ErrArg},
		{0, 1, 0, wants{{Key: "c"}, {Ids: -1}}, api.ErrNone},
		{0, 1, 0, wants{{Key: "a", Up: 5}}, api.ErrRights},
		{0, 1, 0, wants{{Key: "a", Up: 4, Down: 5}}, api.ErrRights},
		{0, 1, 0, wants{{Key: "a", Up: 4, Down: 4}}, api.OK},
		{0, 1, 0, wants{{Key: "a", Ids: 50}, {Ids: 11}}, api.ErrRights},
		{0, 1, 0, wants{{Key: "a", Ids: 50}, {Ids: 10}}, api.OK},
		{0, 1, 0, wants{{Key: "a", Ids: 50}, {Key: "b", Ids: 11}, {Ids: -1}}, api.ErrRights},
	} {
		before := plain.Book(b)
		got, l, e := ledger.Grant(b, c.device, c.epoch, c.until, c.wants)
		if e != c.want || e != api.OK && (!ledger.Same(got, b) || !reflect.DeepEqual(l, api.Lease{})) || !ledger.Same(b, before) {
			t.Errorf("%d: %v, %v", i, e, l)
		}
	}
}

func op(kind int, key string, n int) api.Op {
	return api.Op{Dot: api.Dot{Epoch: 1, Seq: 1}, Ver: 1, Kind: kind, Key: key, N: n}
}

func TestP1203Spend(t *testing.T) {
	_, l := grant(t, start(t), 2, api.Want{Key: "a", Up: 6, Down: 2}, api.Want{Ids: 3})
	for i, c := range []struct {
		o    api.Op
		want api.Errno
	}{
		{op(api.KCount, "b", 1), api.ErrRights},
		{op(api.KCount, "a", 7), api.ErrRights},
		{op(api.KCount, "a", -3), api.ErrRights},
		{op(api.KCount, "a", 4), api.OK},
		{op(api.KCount, "a", 3), api.ErrRights},
		{op(api.KCount, "a", -1), api.OK},
		{op(api.KCount, "a", 2), api.OK},
		{op(api.KCount, "a", -2), api.ErrRights},
		{op(api.KCount, "a", -1), api.OK},
		{op(api.KBind, "", 3), api.ErrRights},
		{op(api.KBind, "", 2), api.OK},
		{op(api.KBind, "", 2), api.ErrIs},
		{op(api.KBind, "", 0), api.OK},
		{op(api.KSet, "k", 0), api.OK},
		{op(api.KAdd, "k", 0), api.OK},
		{op(api.KRem, "k", 0), api.OK},
	} {
		before := plain.Lease(l)
		next, e := ledger.Spend(l, c.o)
		if e != c.want || !plain.SameLease(l, before) || e != api.OK && !plain.SameLease(next, l) {
			t.Errorf("%d: %v, %v", i, e, next)
		}
		l = next
	}
	if l.Slices[0].UsedUp != 6 || l.Slices[0].UsedDown != 2 || !slices.Equal(l.Used, []int{0, 2}) || len(l.Ids) != 1 {
		t.Errorf("%v", l)
	}
}

func TestP1203Put(t *testing.T) {
	b, _ := grant(t, start(t), 1, api.Want{Key: "a", Up: 1})
	b, l := grant(t, b, 2, api.Want{Key: "a", Up: 2})
	l, _ = ledger.Spend(l, op(api.KCount, "a", 2))
	l.Last = 7
	next, e := ledger.Put(b, l)
	if got, ok := ledger.Find(next, 2, 1); e != api.OK || !ok || !plain.SameLease(got, l) || len(next.Leases) != 2 {
		t.Errorf("%v, %v", next, e)
	}
	if got, _ := ledger.Find(b, 2, 1); got.Last != -1 {
		t.Error("Put changed its argument")
	}
	l.Epoch = 2
	if got, e := ledger.Put(b, l); e != api.ErrNone || !ledger.Same(got, b) {
		t.Errorf("%v", e)
	}
}

func TestP1204Free(t *testing.T) {
	b := start(t)
	b, _ = grant(t, b, 0, api.Want{Ids: 2})
	b, l := grant(t, b, 2, api.Want{Key: "a", Up: 5, Down: 3}, api.Want{Ids: 5})
	for _, o := range []api.Op{op(api.KCount, "a", 2), op(api.KCount, "a", -3), op(api.KBind, "", 6), op(api.KBind, "", 3)} {
		l, _ = ledger.Spend(l, o)
	}
	b, _ = ledger.Put(b, l)
	for _, k := range [][2]int{{2, 2}, {1, 1}, {-1, 0}} {
		if got, e := ledger.Free(b, k[0], k[1]); e != api.ErrNone || !ledger.Same(got, b) {
			t.Errorf("%v: %v", k, e)
		}
	}
	if n := ledger.Totals(b, "a"); n != [6]int{1, 3, 2, 1, 0, 3} {
		t.Errorf("%v", n)
	}
	b, e := ledger.Free(b, 2, 1)
	if e != api.OK || b.Counters[0].Up != 4 || b.Counters[0].Down != 1 || !slices.Equal(b.Bound, []int{3, 6}) || len(b.Leases) != 1 ||
		!slices.Equal(b.Free, []api.Range{{From: 2, To: 3}, {From: 4, To: 6}, {From: 7, To: 100}}) {
		t.Errorf("%v", b)
	}
	if n := ledger.Totals(b, "a"); n != [6]int{4, 0, 2, 1, 0, 3} {
		t.Errorf("%v", n)
	}
	if n := ledger.Totals(b, "none"); n != [6]int{} {
		t.Errorf("%v", n)
	}
	l, _ = ledger.Find(b, 0, 1)
	l, _ = ledger.Spend(l, op(api.KBind, "", 0))
	b, _ = ledger.Put(b, l)
	b, _ = ledger.Free(b, 0, 1)
	if !slices.Equal(b.Bound, []int{0, 3, 6}) || b.Free[0] != (api.Range{From: 1, To: 3}) {
		t.Errorf("%v", b)
	}
}

func TestP1204Sound(t *testing.T) {
	b, l := grant(t, start(t), 1, api.Want{Key: "a", Up: 3, Down: 1, Ids: 5}, api.Want{Key: "b", Up: 5})
	l, _ = ledger.Spend(l, op(api.KBind, "", 4))
	l, _ = ledger.Spend(l, op(api.KBind, "", 2))
	b, _ = ledger.Put(b, l)
	b, _ = grant(t, b, 3, api.Want{Ids: 5}, api.Want{Key: "a", Up: 1})
	b, _ = grant(t, b, 4, api.Want{Ids: 5})
	b, _ = ledger.Free(b, 4, 1)
	b.Bound = []int{-5, 500, 600}
	if !ledger.Sound(b) || !ledger.Sound(api.Book{}) || !ledger.Sound(start(t)) {
		t.Fatal("a sound one")
	}
	for i, change := range []func(b *api.Book){
		func(b *api.Book) { b.Counters[0].Key = "" },
		func(b *api.Book) { b.Counters[0].Key = "b" },
		func(b *api.Book) { b.Counters[0].Coll = 3 },
		func(b *api.Book) { b.Counters[0].Lo = 5 },
		func(b *api.Book) { b.Counters[0].Hi = 3 },
		func(b *api.Book) { b.Counters[1].Hi = big + 1 },
		func(b *api.Book) { b.Counters[0].Up = -1 },
		func(b *api.Book) { b.Counters[0].Down = -1 },
		func(b *api.Book) { b.Counters[0].Up = 3 },
		func(b *api.Book) { b.Counters[0].Up = math.MaxInt },
		func(b *api.Book) { b.Counters[1].Down = math.MaxInt },
		func(b *api.Book) { b.Counters[0].Down = 4 },
		func(b *api.Book) { b.Leases[0].Device = -1 },
		func(b *api.Book) { b.Leases[1].Device = 6 },
		func(b *api.Book) { b.Leases[1].Device = 1 },
		func(b *api.Book) { b.Leases[1].Device = 0 },
		func(b *api.Book) { b.Leases[0].Slices[0].Key = "c" },
		func(b *api.Book) { b.Leases[0].Slices[0].Key = "b" },
		func(b *api.Book) { b.Leases[0].Slices[1].Up = 2*big + 1 },
		func(b *api.Book) { b.Leases[0].Slices[1].Down = math.MaxInt },
		func(b *api.Book) { b.Leases[0].Slices[1].Up = -1 },
		func(b *api.Book) { b.Leases[0].Slices[0].UsedUp = 4 },
		func(b *api.Book) { b.Leases[0].Slices[0].UsedUp = -1 },
		func(b *api.Book) { b.Leases[0].Slices[0].UsedDown = 2 },
		func(b *api.Book) { b.Leases[0].Slices[0].UsedDown = math.MinInt },
		func(b *api.Book) { b.Leases[0].Slices[0].Up = 6 },
		func(b *api.Book) { b.Free[0].From = 300 },
		func(b *api.Book) { b.Free = append(b.Free, api.Range{From: 100, To: 101}) },
		func(b *api.Book) { b.Free = append(b.Free, api.Range{From: 200, To: 200}) },
		func(b *api.Book) { b.Free = append(b.Free, api.Range{From: 2000, To: 1<<30 + 1}) },
		func(b *api.Book) { b.Free = append(b.Free, api.Range{From: 50, To: 60}) },
		func(b *api.Book) { b.Free[0].From = -1 },
		func(b *api.Book) { b.Free[0].From = 9 },
		func(b *api.Book) { b.Leases[0].Ids[0].To = 6 },
		func(b *api.Book) { b.Leases[0].Ids = append(b.Leases[0].Ids, api.Range{From: 3, To: 9}) },
		func(b *api.Book) { b.Bound[0] = 3 },
		func(b *api.Book) { b.Bound[0] = 12 },
		func(b *api.Book) { b.Bound[1] = 600 },
		func(b *api.Book) { b.Bound[1] = 700 },
		func(b *api.Book) { b.Leases[0].Used = []int{4, 2} },
		func(b *api.Book) { b.Leases[0].Used = []int{2, 2} },
		func(b *api.Book) { b.Leases[0].Used = []int{2, 5} },
	} {
		c := plain.Book(b)
		change(&c)
		if ledger.Sound(c) || ledger.Same(b, c) {
			t.Errorf("change %d is not seen", i)
		}
	}
	b.Free = append(b.Free, api.Range{From: 5000, To: 1 << 30})
	b.Leases[0].Epoch, b.Leases[0].Until, b.Leases[0].Last = -1, math.MinInt, -9
	if !ledger.Sound(b) {
		t.Error("what Sound does not ask for")
	}
}

func TestP1204SoundEdges(t *testing.T) {
	lease := func(s api.Slice) api.Book {
		c := api.Counter{Key: "a", Lo: -big, Start: -big, Hi: big, Up: 0}
		return api.Book{Counters: []api.Counter{c}, Leases: []api.Lease{{Device: 5, Slices: []api.Slice{s}}}}
	}
	for i, c := range []struct {
		b    api.Book
		want bool
	}{
		{lease(api.Slice{Key: "a", Up: 2 * big}), true},
		{lease(api.Slice{Key: "a", Up: 2 * big, UsedUp: 2 * big}), true},
		{lease(api.Slice{Key: "a", Up: 2*big + 1, UsedUp: 2*big + 1}), false},
		{lease(api.Slice{Key: "a", Down: 2 * big, UsedDown: 2 * big}), true},
		{lease(api.Slice{Key: "a", Down: 2*big + 1, UsedDown: 2*big + 1}), false},
		{lease(api.Slice{Key: "a", Up: 1, UsedUp: 1, Down: 1}), false},
		{api.Book{Free: []api.Range{{From: -1, To: 5}}}, false},
		{api.Book{Free: []api.Range{{From: 0, To: 1 << 30}}}, true},
		{api.Book{Free: []api.Range{{From: 0, To: 1<<30 + 1}}}, false},
		{api.Book{Free: []api.Range{{From: math.MinInt, To: math.MaxInt}}}, false},
		{api.Book{Bound: []int{math.MinInt, 0, math.MaxInt}}, true},
		{api.Book{Bound: []int{math.MaxInt, math.MinInt}}, false},
	} {
		if ledger.Sound(c.b) != c.want {
			t.Errorf("%d: %v", i, !c.want)
		}
	}
}

func TestP1204FreeGivesBack(t *testing.T) {
	b, l := grant(t, start(t), 2, api.Want{Key: "a", Up: 5, Down: 3}, api.Want{Key: "b", Up: 7, Down: 8})
	l, _ = ledger.Spend(l, op(api.KCount, "a", 1))
	l, _ = ledger.Spend(l, op(api.KCount, "a", -2))
	b, _ = ledger.Put(b, l)
	b, e := ledger.Free(b, 2, 1)
	if e != api.OK || b.Counters[0].Up != 5 || b.Counters[0].Down != 2 || b.Counters[1].Up != big || b.Counters[1].Down != big {
		t.Errorf("%v, %v", b.Counters, e)
	}
}

func TestP1202FiveWants(t *testing.T) {
	l := []api.Counter{{Key: "a"}, {Key: "b"}, {Key: "c"}, {Key: "d"}}
	b, _ := ledger.New(l, 300)
	var wants []api.Want
	for _, key := range []string{"a", "", "b", "c", "d"} {
		wants = append(wants, api.Want{Key: key, Ids: 50})
	}
	b, lease, e := ledger.Grant(b, 5, 1<<30, 0, wants)
	if e != api.OK || len(lease.Slices) != 4 || !slices.Equal(lease.Ids, []api.Range{{To: 250}}) || !slices.Equal(b.Free, []api.Range{{From: 250, To: 300}}) {
		t.Errorf("%v, %v", lease, e)
	}
}

func TestP1204Same(t *testing.T) {
	b, _ := grant(t, start(t), 1, api.Want{Key: "a", Up: 3})
	for i, change := range []func(b *api.Book){
		func(b *api.Book) { b.Leases[0].Last++ }, func(b *api.Book) { b.Leases[0].Until++ }, func(b *api.Book) { b.Bound = []int{1} }, func(b *api.Book) { b.Counters[0].Start++ },
	} {
		c := plain.Book(b)
		change(&c)
		if ledger.Same(b, c) {
			t.Errorf("change %d is not seen", i)
		}
	}
	if !ledger.Same(b, plain.Book(b)) || !ledger.Same(api.Book{}, api.Book{Bound: []int{}}) {
		t.Error("equal ones differ")
	}
}

// Whatever is granted, spent, put and freed: the book is sound, and the rights stay as many.
func TestP1205(t *testing.T) {
	rnd := rand.New(rand.NewSource(1))
	b := start(t)
	keys := []string{"a", "b", ""}
	for range 20000 {
		device, epoch := rnd.Intn(6), 1+rnd.Intn(2)
		switch rnd.Intn(5) {
		case 0:
			var wants []api.Want
			for _, key := range keys {
				w := api.Want{Key: key, Ids: rnd.Intn(9)}
				if key != "" {
					w.Up, w.Down = rnd.Intn(3), rnd.Intn(3)
				}
				wants = append(wants, w)
			}
			b, _, _ = ledger.Grant(b, device, epoch, rnd.Intn(9), wants)
		case 1:
			b, _ = ledger.Free(b, device, epoch)
		default:
			l, ok := ledger.Find(b, device, epoch)
			if !ok {
				continue
			}
			o := op(api.KCount, keys[rnd.Intn(2)], rnd.Intn(5)-2)
			if rnd.Intn(3) == 0 {
				o = op(api.KBind, "", rnd.Intn(100))
			}
			if l, e := ledger.Spend(l, o); e == api.OK && o.N != 0 {
				b, _ = ledger.Put(b, l)
			}
		}
		if !ledger.Sound(b) {
			t.Fatalf("%v", b)
		}
		for _, c := range b.Counters {
			n := ledger.Totals(b, c.Key)
			if n[0]+n[1]+n[2] != c.Hi-c.Start || n[3]+n[4]+n[5] != c.Start-c.Lo || slices.Min(n[:]) < 0 {
				t.Fatalf("%v: %v", c, n)
			}
		}
	}
	if len(b.Bound) == 0 {
		t.Error("nothing was bound")
	}
}
