package local_test

import (
	"math"
	"math/rand"
	"slices"
	"strconv"
	"strings"
	"testing"

	"escrow/api"
	"escrow/coll"
	"escrow/local"
	"escrow/plain"
)

var all = []bool{true, true, true}

func start(t *testing.T) local.State {
	t.Helper()
	s, e := local.New(1, 2, all)
	if e != api.OK {
		t.Fatal(e)
	}
	return s
}

// must takes a state from a call that must not fail.
func must(t *testing.T) func(local.State, api.Errno) local.State {
	return func(s local.State, e api.Errno) local.State {
		t.Helper()
		if e != api.OK {
			t.Fatal(e)
		}
		return s
	}
}

// refused takes what a call has returned that must fail.
func refused(t *testing.T, before local.State, want api.Errno) func(local.State, api.Errno) {
	return func(s local.State, e api.Errno) {
		t.Helper()
		if e != want || !local.Same(s, before) {
			t.Errorf("%v, not %v, and the state is the one before: %v", e, want, local.Same(s, before))
		}
	}
}

// copied copies a state: no time passes.
func copied(s local.State) local.State {
	s, _ = local.Time(s, 0)
	return s
}

func request(kind int) api.Cmd { return api.Cmd{Kind: kind, N: 10} }

func registered(t *testing.T) local.State {
	s := must(t)(local.Begin(start(t), request(api.CRegister)))
	return must(t)(local.Reply(s, 1, api.Reply{N: 1}))
}

func leased(t *testing.T) local.State {
	s := must(t)(local.Time(registered(t), 3))
	s = must(t)(local.Begin(s, api.Cmd{Kind: api.CCheckout, N: 10, Wants: []api.Want{{Key: "x", Up: 5, Down: 1}, {Ids: 3}}}))
	s = must(t)(local.Time(s, 4))
	return must(t)(local.Reply(s, 2, api.Reply{Lease: api.Lease{Device: 1, Epoch: 1, Until: 10, Last: -1, Slices: []api.Slice{{Key: "x", Up: 5, Down: 1}}, Ids: []api.Range{{To: 3}}}}))
}

func op(kind int, key, text string, n int) api.Op {
	return api.Op{Kind: kind, Key: key, Text: text, N: n}
}

func TestP1801(t *testing.T) {
	subs := []bool{true, false, true}
	s, e := local.New(5, 3, subs)
	subs[0] = false
	if e != api.OK || !local.Same(s, local.State{Device: 5, Ver: 3, Subs: []bool{true, false, true}}) {
		t.Errorf("%+v, %v", s, e)
	}
	for _, c := range []struct {
		device, ver int
		subs        []bool
	}{{-1, 1, all}, {6, 1, all}, {0, 0, all}, {0, 4, all}, {0, 1, nil}, {0, 1, all[:2]}, {0, 1, make([]bool, 4)}} {
		if s, e := local.New(c.device, c.ver, c.subs); e != api.ErrArg || !local.Same(s, local.State{}) {
			t.Errorf("%v: %v", c, e)
		}
	}
}

func TestP1802Register(t *testing.T) {
	s := must(t)(local.Time(start(t), 7))
	next := must(t)(local.Begin(s, api.Cmd{Kind: api.CRegister, Device: 4, Epoch: 4, Req: 4, N: 4, Wants: make([]api.Want, 9), Ops: make([]api.Op, 9)}))
	s.Req, s.Asked, s.Cmd = 1, 7, api.Cmd{Kind: api.CRegister, Device: 1, Req: 1}
	if !local.Same(next, s) {
		t.Errorf("%+v", next)
	}
	refused(t, s, api.ErrIs)(local.Begin(s, request(api.CRegister)))
	refused(t, s, api.ErrIs)(local.Begin(s, request(api.CClose)))
	s = registered(t)
	refused(t, s, api.ErrIs)(local.Begin(s, request(api.CRegister)))
	s.Fenced = true
	must(t)(local.Begin(s, request(api.CRegister)))
	s.Req = 1 << 30
	refused(t, s, api.ErrOver)(local.Begin(s, request(api.CRegister)))
	s.Cmd.Kind = api.CClose
	refused(t, s, api.ErrIs)(local.Begin(s, request(api.CRegister)))
	for _, kind := range []int{0, -1, api.CMerge, api.CReclaim, api.CLose, api.CTime, 8} {
		refused(t, s, api.ErrKind)(local.Begin(s, request(kind)))
	}
}

func TestP1802Checkout(t *testing.T) {
	long := []api.Want{{}, {Key: strings.Repeat("x", 41)}}
	s := start(t)
	refused(t, s, api.ErrNone)(local.Begin(s, request(api.CCheckout)))
	s.Fenced = true
	refused(t, s, api.ErrNone)(local.Begin(s, request(api.CCheckout)))
	s = registered(t)
	for _, c := range []api.Cmd{{N: 0}, {N: -1}, {N: 1001}, {N: 1, Wants: make([]api.Want, 6)}, {N: 1, Wants: long}} {
		c.Kind = api.CCheckout
		refused(t, s, api.ErrArg)(local.Begin(s, c))
	}
	must(t)(local.Begin(s, api.Cmd{Kind: api.CCheckout, N: 1}))
	wants := []api.Want{{Key: "x", Up: -5}, {}, {}, {}, {}}
	next := must(t)(local.Begin(s, api.Cmd{Kind: api.CCheckout, N: 1000, Wants: wants}))
	wants[0].Up = 9
	s.Req, s.Cmd = 2, api.Cmd{Kind: api.CCheckout, Device: 1, Epoch: 1, Req: 2, N: 1000, Wants: []api.Want{{Key: "x", Up: -5}, {}, {}, {}, {}}}
	if !local.Same(next, s) {
		t.Errorf("%+v", next)
	}
	s = leased(t)
	refused(t, s, api.ErrOpen)(local.Begin(s, api.Cmd{Kind: api.CCheckout, N: 0}))
	s.Fenced = true
	refused(t, s, api.ErrFenced)(local.Begin(s, api.Cmd{Kind: api.CCheckout, N: 0}))
}

func TestP1802Close(t *testing.T) {
	s := start(t)
	refused(t, s, api.ErrNone)(local.Begin(s, request(api.CClose)))
	s = registered(t)
	refused(t, s, api.ErrNone)(local.Begin(s, request(api.CClose)))
	s = must(t)(local.Do(leased(t), op(api.KSet, "k", "", 0)))
	next := must(t)(local.Begin(s, request(api.CClose)))
	want := copied(s)
	want.Req, want.Asked, want.Lease.Last, want.Cmd = 3, 7, 1, api.Cmd{Kind: api.CClose, Device: 1, Epoch: 1, Req: 3, N: 1}
	if !local.Same(next, want) {
		t.Errorf("%+v", next)
	}
	s.Fenced = true
	refused(t, s, api.ErrFenced)(local.Begin(s, request(api.CClose)))
}

func TestP1803Merge(t *testing.T) {
	s := start(t)
	refused(t, s, api.ErrNone)(local.Reply(s, 0, api.Reply{N: 1}))
	s = registered(t)
	s.Subs[1] = false
	for i := range 6 {
		o := op(api.KSet, "k", strconv.Itoa(i), 0)
		o.Coll = i % 2
		s = must(t)(local.Do(s, o))
	}
	seqs := func(s local.State) []int {
		var l []int
		for _, o := range s.Pending {
			l = append(l, o.Dot.Seq)
		}
		return l
	}
	for _, c := range []struct {
		n, sent int
		want    []int
	}{{3, 3, []int{1, 3, 4, 5, 6}}, {6, 6, []int{1, 3, 5}}, {7, 0, []int{1, 2, 3, 4, 5, 6}}, {-1, 0, []int{1, 2, 3, 4, 5, 6}}, {0, 0, []int{1, 2, 3, 4, 5, 6}}} {
		next := must(t)(local.Reply(s, 0, api.Reply{N: c.n}))
		if next.Sent != c.sent || !slices.Equal(seqs(next), c.want) {
			t.Errorf("%d: %d, %v", c.n, next.Sent, seqs(next))
		}
	}
	s.Sent = 4
	next := must(t)(local.Reply(s, 0, api.Reply{N: 2}))
	if next.Sent != 4 || !slices.Equal(seqs(next), []int{1, 3, 5, 6}) {
		t.Errorf("%d, %v", next.Sent, seqs(next))
	}
	refused(t, s, api.OK)(local.Reply(s, 0, api.Reply{Err: api.ErrRights, N: 6}))
	next = must(t)(local.Reply(s, 0, api.Reply{Err: api.ErrFenced, N: 6}))
	s.Fenced = true
	if !local.Same(next, s) {
		t.Errorf("%+v", next)
	}
}

func TestP1803Requests(t *testing.T) {
	s := registered(t)
	if !local.Same(s, local.State{Device: 1, Epoch: 1, Ver: 2, Subs: all, Req: 1}) {
		t.Errorf("%+v", s)
	}
	refused(t, s, api.ErrNone)(local.Reply(s, 1, api.Reply{}))
	s = leased(t)
	if s.Ends != 13 || s.Asked != 3 || s.Now != 7 || s.Lease.Slices[0].Up != 5 || s.Cmd.Kind != 0 {
		t.Errorf("%+v", s)
	}
	s = must(t)(local.Begin(must(t)(local.Do(s, op(api.KSet, "k", "", 0))), request(api.CClose)))
	for _, req := range []int{1, 2, 4, -1} {
		refused(t, s, api.ErrNone)(local.Reply(s, req, api.Reply{}))
	}
	closed, want := must(t)(local.Reply(s, 3, api.Reply{N: 9})), copied(s)
	want.Cmd, want.Lease, want.Ends = api.Cmd{}, api.Lease{}, 0
	if !local.Same(closed, want) {
		t.Errorf("%+v", closed)
	}
	failed, want := must(t)(local.Reply(s, 3, api.Reply{Err: api.ErrArg})), copied(s)
	want.Cmd, want.Lease.Last = api.Cmd{}, -1
	if !local.Same(failed, want) {
		t.Errorf("%+v", failed)
	}
	fenced, want := must(t)(local.Reply(s, 3, api.Reply{Err: api.ErrFenced})), copied(s)
	want.Cmd, want.Fenced = api.Cmd{}, true
	if !local.Same(fenced, want) {
		t.Errorf("%+v", fenced)
	}
	again := must(t)(local.Begin(fenced, request(api.CRegister)))
	refusedRegister, want := must(t)(local.Reply(again, 4, api.Reply{Err: api.ErrOver})), copied(again)
	want.Cmd = api.Cmd{}
	if !local.Same(refusedRegister, want) {
		t.Errorf("%+v", refusedRegister)
	}
	anew := must(t)(local.Reply(again, 4, api.Reply{N: 2}))
	if !local.Same(anew, local.State{Device: 1, Epoch: 2, Ver: 2, Subs: all, Req: 4, Asked: 7, Now: 7}) {
		t.Errorf("%+v", anew)
	}
}

func TestP1804Order(t *testing.T) {
	bad := api.Op{Kind: 9}
	s := start(t)
	s.Fenced = true
	refused(t, s, api.ErrNone)(local.Do(s, bad))
	s = registered(t)
	s.Fenced, s.Pending, s.Seq = true, make([]api.Op, 200), 1<<30
	refused(t, s, api.ErrFenced)(local.Do(s, bad))
	s.Fenced = false
	refused(t, s, api.ErrFull)(local.Do(s, bad))
	s.Pending = s.Pending[:199]
	refused(t, s, api.ErrOver)(local.Do(s, bad))
	s.Seq = 0
	refused(t, s, api.ErrKind)(local.Do(s, bad))
	refused(t, s, api.ErrArg)(local.Do(s, api.Op{Kind: 9, Coll: 3}))
	refused(t, s, api.ErrArg)(local.Do(s, api.Op{Kind: api.KRem, Key: "k", Coll: -1}))
	refused(t, s, api.ErrOver)(local.Do(s, op(api.KCount, "x", "", 0)))
	refused(t, s, api.ErrRights)(local.Do(s, op(api.KCount, "x", "", 1)))
	refused(t, s, api.ErrRights)(local.Do(s, op(api.KBind, "", "", 1)))
	s.Now = 1<<40 + 1
	refused(t, s, api.ErrArg)(local.Do(s, op(api.KSet, "x", "", 1)))
}

func TestP1804Do(t *testing.T) {
	s := must(t)(local.Time(registered(t), 5))
	passed := api.Op{Dot: api.Dot{Device: 4, Epoch: 4, Seq: 4}, Coll: 2, Ver: 1, Kind: api.KAdd, Key: "k", Text: "t", N: 7, Time: 99, Dots: make([]api.Dot, 3)}
	next := must(t)(local.Do(s, passed))
	want := copied(s)
	want.Seq = 1
	want.Pending = []api.Op{{Dot: api.Dot{Device: 1, Epoch: 1, Seq: 1}, Coll: 2, Ver: 2, Kind: api.KAdd, Key: "k", Text: "t", N: 7, Time: 5}}
	if !local.Same(next, want) {
		t.Errorf("%+v", next)
	}
	for range 9 {
		next = must(t)(local.Do(next, passed))
	}
	next = must(t)(local.Do(next, op(api.KAdd, "k", "t", 0))) // in another collection
	passed.Kind = api.KRem
	next = must(t)(local.Do(next, passed))
	last := next.Pending[len(next.Pending)-1]
	if len(last.Dots) != 8 || last.Dots[0].Seq != 1 || last.Dots[7].Seq != 8 {
		t.Errorf("%v", last)
	}
	next = must(t)(local.Do(next, passed))
	last = next.Pending[len(next.Pending)-1]
	if len(last.Dots) != 2 || last.Dots[0].Seq != 9 {
		t.Errorf("%v", last)
	}
	passed.Text = "other"
	next = must(t)(local.Do(next, passed))
	if last = next.Pending[len(next.Pending)-1]; len(last.Dots) != 0 {
		t.Errorf("%v", last)
	}
	spare := make([]api.Op, 1, 9)
	spare[0] = next.Pending[0]
	s.Pending = spare
	must(t)(local.Do(s, op(api.KSet, "k", "", 0)))
	if spare[:2][1].Kind != 0 {
		t.Error("an argument was written to")
	}
}

func TestP1804Spend(t *testing.T) {
	s := leased(t) // now 7, ends 13
	refused(t, s, api.ErrRights)(local.Do(s, op(api.KCount, "x", "", 6)))
	refused(t, s, api.ErrRights)(local.Do(s, op(api.KBind, "", "", 3)))
	next := must(t)(local.Do(s, op(api.KBind, "", "", 2)))
	refused(t, next, api.ErrIs)(local.Do(next, op(api.KBind, "", "", 2)))
	next = must(t)(local.Do(next, op(api.KCount, "x", "", 5)))
	if next.Lease.Slices[0].UsedUp != 5 || !slices.Equal(next.Lease.Used, []int{2}) || next.Seq != 2 || s.Lease.Slices[0].UsedUp != 0 {
		t.Errorf("%+v", next)
	}
	late := must(t)(local.Time(s, 5))
	must(t)(local.Do(late, op(api.KCount, "x", "", 1)))
	late = must(t)(local.Time(late, 1))
	refused(t, late, api.ErrExpired)(local.Do(late, op(api.KCount, "x", "", 9)))
	refused(t, late, api.ErrExpired)(local.Do(late, op(api.KBind, "", "", 0)))
	must(t)(local.Do(late, op(api.KSet, "x", "", 1)))
	closing := must(t)(local.Begin(s, request(api.CClose)))
	refused(t, closing, api.ErrExpired)(local.Do(closing, op(api.KCount, "x", "", 1)))
	must(t)(local.Do(closing, op(api.KSet, "x", "", 1)))
}

func incoming(device, seq, kind int) api.Op {
	return api.Op{Dot: api.Dot{Device: device, Epoch: 1, Seq: seq}, Ver: 2, Kind: kind, Key: "k", Text: "t" + strconv.Itoa(seq), N: 1}
}

func TestP1805Errors(t *testing.T) {
	s := registered(t)
	s.Subs[2] = false
	s = must(t)(local.Delta(s, 0, 3, []api.Op{incoming(2, 1, api.KSet)}))
	other, newer, wrong := incoming(2, 2, api.KSet), incoming(2, 2, api.KSet), incoming(2, 2, 9)
	newer.Ver = 3
	for _, c := range []struct {
		at, next int
		l        []api.Op
		want     api.Errno
	}{
		{0, 3, []api.Op{wrong}, api.ErrNone},
		{4, 3, nil, api.ErrNone},
		{3, 2, []api.Op{wrong}, api.ErrArg},
		{3, 4, []api.Op{wrong}, api.ErrKind},
		{3, 4, []api.Op{other, newer}, api.ErrNew},
		{3, 4, []api.Op{other, other}, api.ErrIs},
		{3, 4, []api.Op{incoming(2, 1, api.KSet)}, api.ErrIs},
		{3, 3, nil, api.OK},
	} {
		refused(t, s, c.want)(local.Delta(s, c.at, c.next, c.l))
	}
	for _, coll := range []int{2, 3, -1} {
		o := newer
		o.Coll = coll
		refused(t, s, api.ErrArg)(local.Delta(s, 3, 4, []api.Op{o}))
	}
}

func TestP1805Delta(t *testing.T) {
	s := registered(t)
	for range 5 {
		s = must(t)(local.Do(s, op(api.KAdd, "k", "mine", 0)))
	}
	o := incoming(2, 1, api.KSet)
	o.Coll = 1
	next := must(t)(local.Delta(s, 0, 9, []api.Op{s.Pending[0], o, s.Pending[1]}))
	if next.At != 9 || next.Sent != 2 || len(next.Pending) != 3 || next.Pending[0].Dot.Seq != 3 || len(next.Colls[0].Elems) != 2 || len(next.Colls[1].Regs) != 1 {
		t.Errorf("%+v", next)
	}
	next.Sent = 5
	next = must(t)(local.Delta(next, 9, 10, []api.Op{s.Pending[2]}))
	if next.Sent != 5 || len(next.Pending) != 2 || len(next.Colls[0].Elems) != 3 {
		t.Errorf("%+v", next)
	}
}

func TestP1806(t *testing.T) {
	s := start(t)
	for _, n := range []int{-1, 101, math.MaxInt} {
		refused(t, s, api.ErrArg)(local.Time(s, n))
	}
	refused(t, s, api.OK)(local.Time(s, 0))
	if next := must(t)(local.Time(s, 100)); next.Now != 100 {
		t.Error(next.Now)
	}
	s.Now = 1<<40 - 1
	if next := must(t)(local.Time(s, 1)); next.Now != 1<<40 {
		t.Error(next.Now)
	}
	refused(t, s, api.ErrOver)(local.Time(s, 2))

	s = must(t)(local.Do(registered(t), op(api.KSet, "k", "a", 0)))
	s = must(t)(local.Delta(s, 0, 1, []api.Op{incoming(2, 1, api.KAdd)}))
	s = must(t)(local.Do(s, op(api.KRem, "k", "t1", 0)))
	v := local.View(s, 0)
	if a, _ := coll.Reg(v, "k", 2); a != "a" || len(v.Elems) != 0 || len(s.Colls[0].Elems) != 1 || len(v.Gone) != 1 {
		t.Errorf("%+v", v)
	}
	if !coll.Same(local.View(s, 1), api.Coll{}) || !coll.Same(local.View(s, 3), api.Coll{}) || !coll.Same(local.View(s, -1), api.Coll{}) {
		t.Error("other collections")
	}
	s.Pending = append(s.Pending, s.Pending[0]) // one that coll.Apply refuses
	if !coll.Same(local.View(s, 0), v) {
		t.Error("View")
	}
}

func TestP1806Same(t *testing.T) {
	full := must(t)(local.Begin(must(t)(local.Do(leased(t), op(api.KSet, "k", "", 0))), request(api.CClose)))
	full = must(t)(local.Delta(full, 0, 1, []api.Op{incoming(2, 1, api.KAdd)}))
	for i, change := range []func(s *local.State){
		func(s *local.State) { s.Device++ }, func(s *local.State) { s.Epoch++ }, func(s *local.State) { s.Lease.Until++ }, func(s *local.State) { s.Ends++ }, func(s *local.State) { s.Seq++ },
		func(s *local.State) { s.Sent++ }, func(s *local.State) { s.Pending[0].Time++ }, func(s *local.State) { s.Colls[0].Elems[0].Ver++ }, func(s *local.State) { s.At++ }, func(s *local.State) { s.Ver++ },
		func(s *local.State) { s.Subs[2] = false }, func(s *local.State) { s.Req++ }, func(s *local.State) { s.Asked++ }, func(s *local.State) { s.Cmd.N++ }, func(s *local.State) { s.Fenced = true }, func(s *local.State) { s.Now++ },
	} {
		c := copied(full)
		if !local.Same(c, full) {
			t.Fatal("a copy differs")
		}
		change(&c)
		if local.Same(c, full) {
			t.Errorf("change %d is not seen", i)
		}
	}
}

// Whatever is done: no more than the lease is spent, and nothing at or after its end.
func TestP1807(t *testing.T) {
	rnd := rand.New(rand.NewSource(1))
	for range 200 {
		s := leased(t)
		up, down, ids, spent := 0, 0, map[int]int{}, 0
		for range 60 {
			var e api.Errno
			o := op(api.KCount, "x", "", rnd.Intn(7)-3)
			switch rnd.Intn(12) {
			case 0:
				s = must(t)(local.Time(s, rnd.Intn(2)))
				continue
			case 1, 2, 3:
				o = op(api.KBind, "", "", rnd.Intn(5))
			case 4:
				s, _ = local.Begin(s, request(api.CClose))
				continue
			case 5:
				s, _ = local.Reply(s, s.Req, api.Reply{Err: api.ErrArg})
				continue
			}
			before := s
			s, e = local.Do(s, o)
			if e != api.OK {
				continue
			}
			spent++
			if before.Now >= before.Ends || before.Lease.Last != -1 {
				t.Fatal("spent after the end")
			}
			if o.Kind == api.KBind {
				ids[o.N]++
			} else {
				up, down = up+max(o.N, 0), down+max(-o.N, 0)
			}
		}
		if up > 5 || down > 1 || len(ids) > 3 || s.Lease.Epoch != 0 && s.Lease.Slices[0].UsedUp != up {
			t.Fatalf("%d, %d, %v", up, down, ids)
		}
		for id, n := range ids {
			if n > 1 || id > 2 {
				t.Fatalf("%d is bound %d times", id, n)
			}
		}
	}
}

func TestP2NothingIsShared(t *testing.T) {
	s := leased(t)
	before := copied(s)
	next, _ := local.Do(s, op(api.KSet, "k", "", 0))
	failed, _ := local.Do(s, op(9, "", "", 0))
	for _, x := range []local.State{next, failed} {
		x.Lease.Slices[0].Up, x.Lease.Ids[0].To, x.Subs[0] = 99, 99, false
	}
	if !local.Same(s, before) || !plain.SameLease(s.Lease, before.Lease) {
		t.Error("memory is shared")
	}
}
