package ranges_test

import (
	"math"
	"math/rand"
	"slices"
	"testing"

	"escrow/api"
	"escrow/plain"
	"escrow/ranges"
)

func row(l ...int) []api.Range {
	var out []api.Range
	for i := 0; i < len(l); i += 2 {
		out = append(out, api.Range{From: l[i], To: l[i+1]})
	}
	return out
}

func TestP1101LenAndHas(t *testing.T) {
	l := row(0, 3, 5, 6, 9, 1<<30)
	if ranges.Len(l) != 4+1<<30-9 || ranges.Len(nil) != 0 {
		t.Error(ranges.Len(l))
	}
	for n, want := range map[int]bool{-1: false, 0: true, 2: true, 3: false, 4: false, 5: true, 6: false, 8: false, 9: true, 1<<30 - 1: true, 1 << 30: false, math.MaxInt: false, math.MinInt: false} {
		if ranges.Has(l, n) != want {
			t.Errorf("%d: %v", n, !want)
		}
	}
	if ranges.Has(nil, 0) {
		t.Error("the empty row")
	}
}

func TestP1101Add(t *testing.T) {
	for i, c := range []struct {
		l        []api.Range
		from, to int
		want     []api.Range
	}{
		{row(0, 3), 3, 5, row(0, 5)},
		{row(0, 3), 4, 5, row(0, 3, 4, 5)},
		{row(3, 5), 0, 3, row(0, 5)},
		{row(3, 5), 0, 2, row(0, 2, 3, 5)},
		{row(3, 5), 3, 5, row(3, 5)},
		{row(3, 9), 4, 5, row(3, 9)},
		{row(1, 2, 4, 5, 7, 8), 2, 7, row(1, 8)},
		{row(1, 2, 4, 5, 7, 8), 3, 6, row(1, 2, 3, 6, 7, 8)},
		{row(1, 2, 4, 5, 9, 10), 0, 20, row(0, 20)},
		{nil, 0, 1 << 30, row(0, 1<<30)},
		{row(1, 2), 5, 5, row(1, 2)},
		{row(1, 2), 5, 4, row(1, 2)},
		{row(1, 2), -1, 4, row(1, 2)},
		{row(1, 2), 4, 1<<30 + 1, row(1, 2)},
		{row(1, 2), math.MinInt, math.MaxInt, row(1, 2)},
	} {
		in := append(make([]api.Range, 0, 20), c.l...)
		got := ranges.Add(in, api.Range{From: c.from, To: c.to})
		if !slices.Equal(got, c.want) || !slices.Equal(in, c.l) || in[:20][len(in)] != (api.Range{}) {
			t.Errorf("%d: %v, %v", i, got, in)
		}
		if len(got) > 0 && len(in) > 0 {
			got[0].From = -7
			if in[0].From == -7 {
				t.Errorf("%d: memory is shared", i)
			}
		}
	}
}

func TestP1101Take(t *testing.T) {
	l := append(make([]api.Range, 0, 20), row(0, 3, 5, 6, 9, 12)...)
	for n, want := range map[int][2][]api.Range{
		0: {nil, row(0, 3, 5, 6, 9, 12)},
		1: {row(0, 1), row(1, 3, 5, 6, 9, 12)},
		3: {row(0, 3), row(5, 6, 9, 12)},
		4: {row(0, 3, 5, 6), row(9, 12)},
		6: {row(0, 3, 5, 6, 9, 11), row(11, 12)},
		7: {row(0, 3, 5, 6, 9, 12), nil},
	} {
		taken, rest, e := ranges.Take(l, n)
		if !slices.Equal(taken, want[0]) || !slices.Equal(rest, want[1]) || e != api.OK || !slices.Equal(l, row(0, 3, 5, 6, 9, 12)) {
			t.Errorf("%d: %v, %v, %v", n, taken, rest, e)
		}
	}
	for n, want := range map[int]api.Errno{-1: api.ErrArg, math.MinInt: api.ErrArg, 8: api.ErrRights, math.MaxInt: api.ErrRights} {
		if taken, rest, e := ranges.Take(l, n); e != want || taken != nil || rest != nil {
			t.Errorf("%d: %v", n, e)
		}
	}
}

func TestP1101Less(t *testing.T) {
	l := row(0, 3, 5, 6)
	for n, want := range map[int][]api.Range{0: row(1, 3, 5, 6), 1: row(0, 1, 2, 3, 5, 6), 2: row(0, 2, 5, 6), 5: row(0, 3)} {
		if got, ok := ranges.Less(l, n); !ok || !slices.Equal(got, want) || !slices.Equal(l, row(0, 3, 5, 6)) {
			t.Errorf("%d: %v, %v", n, got, ok)
		}
	}
	for _, n := range []int{-1, 3, 4, 6, math.MaxInt} {
		if got, ok := ranges.Less(l, n); ok || got != nil {
			t.Errorf("%d: %v, %v", n, got, ok)
		}
	}
	got, _ := ranges.Less(l, 5)
	got[0].To = 99
	if l[0].To != 3 {
		t.Error("memory is shared")
	}
}

// Against plain sets; what Take gives is the row, apart.
func TestP1102(t *testing.T) {
	rnd := rand.New(rand.NewSource(1))
	for range 2000 {
		var l []api.Range
		set := map[int]int{}
		for range rnd.Intn(9) {
			from := rnd.Intn(40)
			r := api.Range{From: from, To: from + rnd.Intn(5)}
			l = ranges.Add(l, r)
			for n := r.From; n < r.To; n++ {
				set[n] = 1
			}
		}
		for n := range 50 {
			if _, ok := set[n]; ok != ranges.Has(l, n) {
				t.Fatalf("%v: %d", l, n)
			}
		}
		n := rnd.Intn(ranges.Len(l) + 1)
		taken, rest, e := ranges.Take(l, n)
		if e != api.OK || ranges.Len(taken) != n || ranges.Len(taken)+ranges.Len(rest) != len(set) {
			t.Fatalf("%v, %d: %v, %v", l, n, taken, rest)
		}
		all := plain.List(rest)
		for _, r := range taken {
			all = ranges.Add(all, r)
		}
		if !slices.Equal(all, l) {
			t.Fatalf("%v: %v and %v", l, taken, rest)
		}
	}
}
