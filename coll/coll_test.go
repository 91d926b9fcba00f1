package coll_test

import (
	"math/rand"
	"reflect"
	"slices"
	"testing"

	"escrow/api"
	"escrow/coll"
	"escrow/plain"
)

func dot(device, seq int) api.Dot { return api.Dot{Device: device, Epoch: 1, Seq: seq} }

func op(kind, device, seq int, key, text string, n, time int, dots ...api.Dot) api.Op {
	return api.Op{Dot: dot(device, seq), Ver: 1, Kind: kind, Key: key, Text: text, N: n, Time: time, Dots: dots}
}

func apply(t *testing.T, c api.Coll, l ...api.Op) api.Coll {
	t.Helper()
	for _, o := range l {
		before := plain.Coll(c)
		next, e := coll.Apply(c, o)
		if e != api.OK {
			t.Fatalf("%v: %v", o, e)
		}
		if !coll.Same(c, before) {
			t.Fatal("Apply changed its argument")
		}
		c = next
	}
	return c
}

func TestP1001Errors(t *testing.T) {
	c := apply(t, api.Coll{}, op(api.KSet, 1, 1, "k", "a", 0, 5), op(api.KSet, 1, 3, "k", "b", 0, 6))
	for i, x := range []struct {
		o    api.Op
		want api.Errno
	}{
		{api.Op{}, api.ErrArg},
		{op(9, 1, 1, "k", "", 0, 0), api.ErrKind},
		{op(api.KSet, 1, 1, "\n", "", 0, 0), api.ErrLong},
		{op(api.KCount, 1, 1, "k", "", 0, 0), api.ErrOver},
		{op(api.KSet, 1, 1, "k", "", 0, 0), api.ErrIs},
		{op(api.KSet, 1, 2, "k", "", 0, 0), api.ErrIs},
		{op(api.KSet, 1, 3, "k", "", 0, 0), api.ErrIs},
	} {
		if d, e := coll.Apply(c, x.o); e != x.want || !coll.Same(c, d) {
			t.Errorf("%d: %v, %v", i, e, d)
		}
	}
	if !slices.Equal(c.V, []api.Entry{{Device: 1, Epoch: 1, Seq: 3}}) {
		t.Errorf("%v", c.V)
	}
}

func TestP1001Set(t *testing.T) {
	c := apply(t, api.Coll{}, op(api.KSet, 1, 1, "k", "a", 0, 5), op(api.KSet, 2, 1, "a", "other", 0, 5))
	if !slices.Equal(c.Regs, []api.Reg{{Key: "a", Text: "other", Ver: 1, Time: 5, Dot: dot(2, 1)}, {Key: "k", Text: "a", Ver: 1, Time: 5, Dot: dot(1, 1)}}) {
		t.Errorf("%v", c.Regs)
	}
	for i, x := range []struct {
		o    api.Op
		want string
	}{
		{op(api.KSet, 5, 1, "k", "b", 0, 4), "a"},
		{op(api.KSet, 0, 1, "k", "b", 0, 5), "a"},
		{op(api.KSet, 1, 2, "k", "b", 0, 5), "b"},
		{op(api.KSet, 2, 2, "k", "b", 0, 5), "b"},
		{op(api.KSet, 0, 1, "k", "b", 0, 6), "b"},
	} {
		if s, e := coll.Reg(apply(t, c, x.o), "k", 1); s != x.want || e != api.OK {
			t.Errorf("%d: %q, %v", i, s, e)
		}
	}
}

func TestP1001AddAndRemove(t *testing.T) {
	c := apply(t, api.Coll{}, op(api.KAdd, 2, 1, "s", "x", 0, 0), op(api.KAdd, 1, 1, "s", "x", 0, 0), op(api.KAdd, 1, 2, "a", "y", 0, 0), op(api.KAdd, 1, 3, "s", "a", 0, 0))
	var order []api.Dot
	for _, e := range c.Elems {
		order = append(order, e.Dot)
	}
	if !slices.Equal(order, []api.Dot{dot(1, 2), dot(1, 3), dot(1, 1), dot(2, 1)}) {
		t.Errorf("%v", c.Elems)
	}
	c = apply(t, c, op(api.KRem, 3, 1, "other", "q", 0, 0, dot(1, 1), dot(1, 2), dot(4, 1)))
	if d := coll.Dots(c, "s", "x"); !slices.Equal(d, []api.Dot{dot(2, 1)}) || len(c.Elems) != 2 {
		t.Errorf("%v", c.Elems)
	}
	c = apply(t, c, op(api.KRem, 3, 2, "s", "x", 0, 0, dot(1, 1), dot(2, 1)))
	if !slices.Equal(c.Gone, []api.Dot{dot(1, 1), dot(1, 2), dot(2, 1), dot(4, 1)}) {
		t.Errorf("%v", c.Gone)
	}
	c = apply(t, c, op(api.KAdd, 4, 1, "s", "x", 0, 0), op(api.KAdd, 4, 2, "s", "x", 0, 0))
	if d := coll.Dots(c, "s", "x"); !slices.Equal(d, []api.Dot{dot(4, 2)}) {
		t.Errorf("an element whose dot is gone was added: %v", d)
	}
}

func TestP1001CountAndBind(t *testing.T) {
	c := apply(t, api.Coll{}, op(api.KCount, 1, 1, "n", "", 5, 0), op(api.KCount, 2, 1, "b", "", 1, 0), op(api.KCount, 1, 2, "n", "", -5, 0))
	if !slices.Equal(c.Sums, []api.Sum{{Key: "b", N: 1}, {Key: "n", N: 0}}) {
		t.Errorf("%v", c.Sums)
	}
	c = apply(t, c, op(api.KBind, 3, 1, "", "three", 9, 0), op(api.KBind, 2, 2, "", "two", 7, 0))
	if !slices.Equal(c.Binds, []api.Bind{{Id: 7, Text: "two", Ver: 1, Dot: dot(2, 2)}, {Id: 9, Text: "three", Ver: 1, Dot: dot(3, 1)}}) {
		t.Errorf("%v", c.Binds)
	}
	c = apply(t, c, op(api.KBind, 4, 1, "", "four", 9, 99), op(api.KBind, 1, 3, "", "one", 7, 0))
	if a, _ := coll.Bound(c, 7, 1); a != "one" {
		t.Errorf("%q", a)
	}
	if a, _ := coll.Bound(c, 9, 1); a != "three" {
		t.Errorf("%q", a)
	}
}

func TestP1002(t *testing.T) {
	c := apply(t, api.Coll{}, op(api.KSet, 1, 1, "k", " A ", 0, 0), op(api.KAdd, 1, 2, "s", " Z", 0, 0), op(api.KAdd, 1, 3, "s", "z", 0, 0),
		op(api.KAdd, 1, 4, "s", "b", 0, 0), op(api.KAdd, 1, 5, "t", "c", 0, 0), op(api.KCount, 1, 6, "n", "", -3, 0), op(api.KBind, 1, 7, "", "I ", 5, 0))
	o := op(api.KAdd, 1, 8, "s", "c", 0, 0)
	o.Ver = 2
	c = apply(t, c, o)
	for ver, want := range map[int]string{1: " A ", 2: " a ", 3: "a"} {
		if s, e := coll.Reg(c, "k", ver); s != want || e != api.OK {
			t.Errorf("%d: %q, %v", ver, s, e)
		}
	}
	if l, e := coll.Members(c, "s", 3); !slices.Equal(l, []string{"b", "c", "z"}) || e != api.OK {
		t.Errorf("%q, %v", l, e)
	}
	if l, e := coll.Members(c, "s", 2); !slices.Equal(l, []string{" z", "b", "c", "z"}) || e != api.OK {
		t.Errorf("%q, %v", l, e)
	}
	if l, e := coll.Members(c, "s", 1); l != nil || e != api.ErrNew {
		t.Errorf("%q, %v", l, e)
	}
	if l, e := coll.Members(c, "s", 4); l != nil || e != api.ErrArg {
		t.Errorf("%q, %v", l, e)
	}
	if l, e := coll.Members(c, "none", 9); len(l) != 0 || e != api.OK {
		t.Errorf("%q, %v", l, e)
	}
	if d := coll.Dots(c, "s", "Z"); len(d) != 0 {
		t.Errorf("%v", d)
	}
	if d := coll.Dots(c, "s", "z"); !slices.Equal(d, []api.Dot{dot(1, 3)}) {
		t.Errorf("%v", d)
	}
	if coll.Count(c, "n") != -3 || coll.Count(c, "k") != 0 {
		t.Error("Count")
	}
	if s, e := coll.Bound(c, 5, 3); s != "i" || e != api.OK {
		t.Errorf("%q, %v", s, e)
	}
	for _, ver := range []int{0, 4} {
		if s, e := coll.Reg(c, "k", ver); s != "" || e != api.ErrArg {
			t.Errorf("%q, %v", s, e)
		}
		if s, e := coll.Bound(c, 5, ver); s != "" || e != api.ErrArg {
			t.Errorf("%q, %v", s, e)
		}
	}
	if _, e := coll.Reg(c, "s", 0); e != api.ErrNone {
		t.Error(e)
	}
	if _, e := coll.Bound(c, 6, 0); e != api.ErrNone {
		t.Error(e)
	}
}

func TestP1002Same(t *testing.T) {
	c := apply(t, api.Coll{}, op(api.KSet, 1, 1, "k", "a", 0, 0), op(api.KAdd, 1, 2, "s", "b", 0, 0), op(api.KRem, 1, 3, "s", "b", 0, 0, dot(9, 9)), op(api.KCount, 1, 4, "n", "", 1, 0), op(api.KBind, 1, 5, "", "i", 5, 0))
	for i, change := range []func(c *api.Coll){
		func(c *api.Coll) { c.V[0].Seq++ }, func(c *api.Coll) { c.Regs[0].Ver++ }, func(c *api.Coll) { c.Elems[0].Text = "" },
		func(c *api.Coll) { c.Gone = nil }, func(c *api.Coll) { c.Sums[0].N++ }, func(c *api.Coll) { c.Binds[0].Id++ },
	} {
		d := plain.Coll(c)
		if !coll.Same(c, d) {
			t.Fatal("a copy differs")
		}
		change(&d)
		if coll.Same(c, d) || coll.Same(d, c) {
			t.Errorf("change %d is not seen", i)
		}
	}
	if !coll.Same(api.Coll{}, api.Coll{V: []api.Entry{}, Regs: []api.Reg{}}) {
		t.Error("empty ones differ")
	}
}

// Devices' operations, interleaved in any way: the collection is the same.
func TestP1003(t *testing.T) {
	rnd := rand.New(rand.NewSource(1))
	for range 300 {
		var devices [3][]api.Op
		for d := range devices {
			for seq := range 1 + rnd.Intn(7) {
				o := op(1+rnd.Intn(5), d, seq+1, string(rune('a'+rnd.Intn(2))), string(rune('x'+rnd.Intn(2))), 1+rnd.Intn(3), rnd.Intn(4))
				if o.Kind == api.KRem {
					o.Dots = []api.Dot{dot(rnd.Intn(3), 1+rnd.Intn(3)), dot(3, 1)}
				}
				devices[d] = append(devices[d], o)
			}
		}
		var first api.Coll
		for turn := range 4 {
			left := devices
			var c api.Coll
			for len(left[0])+len(left[1])+len(left[2]) > 0 {
				if d := rnd.Intn(3); len(left[d]) > 0 {
					c = apply(t, c, left[d][0])
					left[d] = left[d][1:]
				}
			}
			if turn == 0 {
				first = c
			} else if !coll.Same(first, c) || !reflect.DeepEqual(first.V, c.V) {
				t.Fatalf("%v\n%v", first, c)
			}
		}
	}
}
