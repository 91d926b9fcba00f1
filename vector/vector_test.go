package vector_test

import (
	"cmp"
	"math"
	"math/rand"
	"slices"
	"testing"

	"escrow/api"
	"escrow/vector"
)

var some = []api.Entry{{Device: 0, Epoch: 1, Seq: 4}, {Device: 0, Epoch: 3, Seq: 1}, {Device: 2, Epoch: 1, Seq: 7}}

func TestP701Get(t *testing.T) {
	for e, want := range map[[2]int]int{{0, 1}: 4, {0, 3}: 1, {2, 1}: 7, {0, 2}: 0, {1, 1}: 0, {2, 2}: 0, {-1, 0}: 0, {9, 9}: 0} {
		if n := vector.Get(some, e[0], e[1]); n != want {
			t.Errorf("%v: %d", e, n)
		}
	}
	if vector.Get(nil, 0, 1) != 0 {
		t.Error("the empty vector")
	}
}

func TestP701Has(t *testing.T) {
	for d, want := range map[api.Dot]bool{
		{Device: 0, Epoch: 1, Seq: 1}: true, {Device: 0, Epoch: 1, Seq: 4}: true, {Device: 0, Epoch: 1, Seq: 5}: false,
		{Device: 0, Epoch: 1, Seq: 0}: false, {Device: 0, Epoch: 1, Seq: -1}: false, {Device: 1, Epoch: 1, Seq: 1}: false,
		{Device: 9, Epoch: 9, Seq: 0}: false,
	} {
		if vector.Has(some, d) != want {
			t.Errorf("%v: %v", d, !want)
		}
	}
}

func TestP701Step(t *testing.T) {
	for _, c := range []struct {
		d    api.Dot
		want api.Errno
		at   int
		size int
	}{
		{api.Dot{Device: 0, Epoch: 1, Seq: 5}, api.OK, 0, 3},
		{api.Dot{Device: 0, Epoch: 1, Seq: 9}, api.OK, 0, 3},
		{api.Dot{Device: 0, Epoch: 2, Seq: 1}, api.OK, 1, 4},
		{api.Dot{Device: 0, Epoch: 0, Seq: 1}, api.OK, 0, 4},
		{api.Dot{Device: 3, Epoch: 1, Seq: math.MaxInt}, api.OK, 3, 4},
		{api.Dot{Device: 0, Epoch: 1, Seq: 4}, api.ErrIs, 0, 0},
		{api.Dot{Device: 0, Epoch: 1, Seq: 1}, api.ErrIs, 0, 0},
		{api.Dot{Device: 0, Epoch: 1, Seq: 0}, api.ErrArg, 0, 0},
		{api.Dot{Device: 0, Epoch: 1, Seq: -1}, api.ErrArg, 0, 0},
		{api.Dot{Device: -1, Epoch: 1, Seq: 1}, api.ErrArg, 0, 0},
		{api.Dot{Device: 0, Epoch: -1, Seq: 1}, api.ErrArg, 0, 0},
	} {
		in := make([]api.Entry, 3, 9)
		copy(in, some)
		v, e := vector.Step(in, c.d)
		if e != c.want || len(v) != c.size || c.size > 0 && v[c.at] != api.Entry(c.d) {
			t.Errorf("%v: %v, %v", c.d, v, e)
		}
		if !slices.Equal(in, some) || in[:4][3] != (api.Entry{}) {
			t.Fatal("the argument was written to")
		}
	}
	if v, e := vector.Step(nil, api.Dot{Device: 1, Epoch: 1, Seq: 3}); e != api.OK || !slices.Equal(v, []api.Entry{{Device: 1, Epoch: 1, Seq: 3}}) {
		t.Errorf("%v, %v", v, e)
	}
}

func TestP701Join(t *testing.T) {
	b := []api.Entry{{Device: 0, Epoch: 1, Seq: 2}, {Device: 0, Epoch: 2, Seq: 2}, {Device: 0, Epoch: 3, Seq: 5}, {Device: 5, Epoch: 1, Seq: 1}}
	want := []api.Entry{{Device: 0, Epoch: 1, Seq: 4}, {Device: 0, Epoch: 2, Seq: 2}, {Device: 0, Epoch: 3, Seq: 5}, {Device: 2, Epoch: 1, Seq: 7}, {Device: 5, Epoch: 1, Seq: 1}}
	if v := vector.Join(some, b); !slices.Equal(v, want) {
		t.Errorf("%v", v)
	}
	if v := vector.Join(b, some); !slices.Equal(v, want) {
		t.Errorf("%v", v)
	}
	v := vector.Join(some, nil)
	if !slices.Equal(v, some) || len(vector.Join(nil, nil)) != 0 {
		t.Errorf("%v", v)
	}
	v[0].Seq = 99
	w := vector.Join(nil, some)
	w[0].Seq = 98
	if some[0].Seq != 4 {
		t.Error("memory is shared")
	}
}

func TestP701Le(t *testing.T) {
	more, _ := vector.Step(some, api.Dot{Device: 1, Epoch: 1, Seq: 1})
	greater, _ := vector.Step(some, api.Dot{Device: 0, Epoch: 1, Seq: 5})
	for _, c := range []struct {
		a, b []api.Entry
		want bool
	}{{nil, nil, true}, {nil, some, true}, {some, nil, false}, {some, some, true}, {some, more, true}, {more, some, false}, {some, greater, true}, {greater, some, false}, {greater, more, false}} {
		if vector.Le(c.a, c.b) != c.want {
			t.Errorf("%v, %v: %v", c.a, c.b, !c.want)
		}
	}
}

func random(rnd *rand.Rand) []api.Entry {
	var v []api.Entry
	for range rnd.Intn(6) {
		v, _ = vector.Step(v, api.Dot{Device: rnd.Intn(2), Epoch: rnd.Intn(3), Seq: 1 + rnd.Intn(3)})
	}
	return v
}

func TestP702(t *testing.T) {
	rnd := rand.New(rand.NewSource(1))
	for range 5000 {
		a, b, c := random(rnd), random(rnd), random(rnd)
		v := vector.Join(a, b)
		if !vector.Le(a, v) || !vector.Le(b, v) {
			t.Fatalf("%v of %v and %v", v, a, b)
		}
		if vector.Le(a, c) && vector.Le(b, c) && !vector.Le(v, c) {
			t.Fatalf("%v of %v and %v: %v is less", v, a, b, c)
		}
		if !slices.IsSortedFunc(v, func(a, b api.Entry) int { return cmp.Or(a.Device-b.Device, a.Epoch-b.Epoch) }) {
			t.Fatalf("%v", v)
		}
	}
}
