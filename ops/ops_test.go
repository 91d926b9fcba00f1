package ops_test

import (
	"bytes"
	"math"
	"math/rand"
	"reflect"
	"strings"
	"testing"

	"escrow/api"
	"escrow/code"
	"escrow/ops"
)

const top = 1 << 40

// good is an operation of a kind that Check accepts, changed by a function.
func good(kind int, change func(o *api.Op)) api.Op {
	o := api.Op{Dot: api.Dot{Device: 1, Epoch: 2, Seq: 3}, Coll: 1, Ver: 2, Kind: kind, Key: "k", Text: "t", N: 7, Time: 9}
	if kind == api.KRem {
		o.Dots = []api.Dot{{Device: 0, Epoch: 1, Seq: 2}, {Device: 0, Epoch: 2, Seq: 1}, {Device: 1, Epoch: 1, Seq: 1}}
	}
	if change != nil {
		change(&o)
	}
	return o
}

func TestP901AllKinds(t *testing.T) {
	for kind := api.KSet; kind <= api.KBind; kind++ {
		for want, l := range map[api.Errno][]func(o *api.Op){
			api.OK: {
				nil,
				func(o *api.Op) { o.Dot = api.Dot{Device: 5, Epoch: 1 << 30, Seq: 1 << 30} },
				func(o *api.Op) { o.Dot = api.Dot{Device: 0, Epoch: 1, Seq: 1} },
				func(o *api.Op) { o.Coll, o.Ver, o.Time = 2, 3, top },
				func(o *api.Op) { o.Coll, o.Ver, o.Time = 0, 1, 0 },
				func(o *api.Op) { o.Key, o.Text = strings.Repeat("\xff ", 20), "" },
			},
			api.ErrArg: {
				func(o *api.Op) { o.Dot = api.Dot{} },
				func(o *api.Op) { o.Dot.Device = 6 },
				func(o *api.Op) { o.Dot.Device = -1 },
				func(o *api.Op) { o.Dot.Epoch = 0 },
				func(o *api.Op) { o.Dot.Epoch = 1<<30 + 1 },
				func(o *api.Op) { o.Dot.Seq = 0 },
				func(o *api.Op) { o.Dot.Seq = 1<<30 + 1 },
				func(o *api.Op) { o.Coll = 3 },
				func(o *api.Op) { o.Coll = -1 },
				func(o *api.Op) { o.Ver = 0 },
				func(o *api.Op) { o.Ver = 4 },
				func(o *api.Op) { o.Time = -1 },
				func(o *api.Op) { o.Time = top + 1 },
				func(o *api.Op) { o.Time, o.Kind, o.Key = -1, 9, "\n" },
			},
			api.ErrLong: {
				func(o *api.Op) { o.Key = strings.Repeat("x", 41) },
				func(o *api.Op) { o.Text = strings.Repeat("x", 41) },
				func(o *api.Op) { o.Key = "\x1f" },
				func(o *api.Op) { o.Text = "a\x7f" },
				func(o *api.Op) { o.Key, o.Text = "", "\n" },
			},
			api.ErrKind: {
				func(o *api.Op) { o.Kind = 0 },
				func(o *api.Op) { o.Kind = 6 },
				func(o *api.Op) { o.Kind, o.Key = -1, "\n" },
			},
		} {
			for i, change := range l {
				if e := ops.Check(good(kind, change)); e != want {
					t.Errorf("kind %d, %v %d: %v", kind, want, i, e)
				}
			}
		}
	}
}

func TestP901ByKind(t *testing.T) {
	nine := make([]api.Dot, 9)
	for i := range nine {
		nine[i].Seq = i
	}
	for i, c := range []struct {
		kind   int
		change func(o *api.Op)
		want   api.Errno
	}{
		{api.KSet, func(o *api.Op) { o.Key = "" }, api.ErrArg},
		{api.KAdd, func(o *api.Op) { o.Key = "" }, api.ErrArg},
		{api.KRem, func(o *api.Op) { o.Key = "" }, api.ErrArg},
		{api.KCount, func(o *api.Op) { o.Key = "" }, api.ErrArg},
		{api.KBind, func(o *api.Op) { o.Key = "" }, api.OK},
		{api.KRem, func(o *api.Op) { o.Key, o.Dots = "", nine }, api.ErrArg},
		{api.KCount, func(o *api.Op) { o.Key, o.N = "", 0 }, api.ErrArg},
		{api.KRem, func(o *api.Op) { o.Dots = nil }, api.OK},
		{api.KRem, func(o *api.Op) { o.Dots = nine[:8] }, api.OK},
		{api.KRem, func(o *api.Op) { o.Dots = nine }, api.ErrMany},
		{api.KRem, func(o *api.Op) { o.Dots = make([]api.Dot, 9) }, api.ErrMany},
		{api.KRem, func(o *api.Op) { o.Dots = make([]api.Dot, 2) }, api.ErrBad},
		{api.KRem, func(o *api.Op) { o.Dots = []api.Dot{{Epoch: 1}, {Seq: 9}} }, api.ErrBad},
		{api.KRem, func(o *api.Op) { o.Dots = []api.Dot{{Device: 1}, {Epoch: 1}} }, api.ErrBad},
		{api.KSet, func(o *api.Op) { o.N = math.MinInt }, api.OK},
		{api.KCount, func(o *api.Op) { o.N = 0 }, api.ErrOver},
		{api.KCount, func(o *api.Op) { o.N = top }, api.OK},
		{api.KCount, func(o *api.Op) { o.N = -top }, api.OK},
		{api.KCount, func(o *api.Op) { o.N = top + 1 }, api.ErrOver},
		{api.KCount, func(o *api.Op) { o.N = -top - 1 }, api.ErrOver},
		{api.KBind, func(o *api.Op) { o.N = 0 }, api.OK},
		{api.KBind, func(o *api.Op) { o.N = 999 }, api.OK},
		{api.KBind, func(o *api.Op) { o.N = 1000 }, api.ErrOver},
		{api.KBind, func(o *api.Op) { o.N = -1 }, api.ErrOver},
	} {
		if e := ops.Check(good(c.kind, c.change)); e != c.want {
			t.Errorf("%d: %v, not %v", i, e, c.want)
		}
	}
}

func TestP902Bytes(t *testing.T) {
	o := good(api.KRem, nil)
	want := code.Int(nil, 1)
	for _, n := range []int{2, 3, 1, 2, 3, 9} {
		want = code.Int(want, n)
	}
	want = code.Text(code.Text(want, "k"), "t")
	for _, n := range []int{7, 3, 0, 1, 2, 0, 2, 1, 1, 1, 1} {
		want = code.Int(want, n)
	}
	in := make([]byte, 1, 500)
	if b := ops.Bytes(in, o); b[0] != 0 || !bytes.Equal(b[1:], want) || !bytes.Equal(in[:500], make([]byte, 500)) {
		t.Errorf("%x", b)
	}
}

func TestP902Parse(t *testing.T) {
	b := ops.Bytes(nil, good(api.KRem, nil))
	for k := range b {
		if o, e := ops.Parse(b[:k]); e != api.ErrCut || !reflect.DeepEqual(o, api.Op{}) {
			t.Errorf("%d bytes: %v, %v", k, o, e)
		}
	}
	dots := func(n int) []byte {
		b := ops.Bytes(nil, good(api.KSet, nil))
		return append(b[:len(b)-1], code.Int(nil, n)...)
	}
	for i, c := range []struct {
		b    []byte
		want api.Errno
	}{
		{append(bytes.Clone(b), 0), api.ErrMore},
		{append(ops.Bytes(nil, api.Op{}), 0), api.ErrMore},
		{ops.Bytes(nil, api.Op{}), api.ErrArg},
		{append([]byte{128}, b...), api.ErrBad},
		{dots(9), api.ErrMany},
		{append(dots(9), 128, 1), api.ErrMany},
		{dots(-1), api.ErrMany},
		{dots(8), api.ErrCut},
		{append(dots(1), 128), api.ErrBad},
		{ops.Bytes(nil, good(api.KSet, func(o *api.Op) { o.Key = strings.Repeat("x", 65536) })), api.ErrMany},
		{ops.Bytes(nil, good(api.KSet, func(o *api.Op) { o.Key = strings.Repeat("x", 65535) })), api.ErrLong},
		{ops.Bytes(nil, good(9, nil)), api.ErrKind},
	} {
		if o, e := ops.Parse(c.b); e != c.want || !reflect.DeepEqual(o, api.Op{}) {
			t.Errorf("%d: %v, %v", i, o, e)
		}
	}
}

func TestP902Same(t *testing.T) {
	for i, change := range []func(o *api.Op){
		func(o *api.Op) { o.Dot.Device++ }, func(o *api.Op) { o.Dot.Epoch++ }, func(o *api.Op) { o.Dot.Seq++ },
		func(o *api.Op) { o.Coll++ }, func(o *api.Op) { o.Ver++ }, func(o *api.Op) { o.Kind++ }, func(o *api.Op) { o.Key = "" },
		func(o *api.Op) { o.Text = "" }, func(o *api.Op) { o.N++ }, func(o *api.Op) { o.Time++ },
		func(o *api.Op) { o.Dots = nil }, func(o *api.Op) { o.Dots[2].Seq++ },
	} {
		if ops.Same(good(api.KRem, nil), good(api.KRem, change)) {
			t.Errorf("change %d is not seen", i)
		}
	}
	if !ops.Same(good(api.KRem, nil), good(api.KRem, nil)) || !ops.Same(api.Op{}, api.Op{Dots: []api.Dot{}}) {
		t.Error("equal ones differ")
	}
}

func TestP903(t *testing.T) {
	rnd := rand.New(rand.NewSource(1))
	for range 5000 {
		o := good(1+rnd.Intn(5), func(o *api.Op) {
			o.Dot = api.Dot{Device: rnd.Intn(7), Epoch: rnd.Intn(1 << 30), Seq: 1 + rnd.Intn(1<<30)}
			o.N = rnd.Intn(2000) - 500
			o.Time = rnd.Intn(top)
			o.Text = strings.Repeat("\xfe", rnd.Intn(42))
		})
		p, e := ops.Parse(ops.Bytes(nil, o))
		if want := ops.Check(o); e != want || e == api.OK && !ops.Same(o, p) {
			t.Fatalf("%v: %v, %v", o, p, e)
		}
	}
}
