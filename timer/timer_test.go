package timer_test

import (
	"cmp"
	"math"
	"math/rand"
	"slices"
	"testing"

	"escrow/api"
	"escrow/timer"
)

func TestP601Order(t *testing.T) {
	q := timer.New()
	for _, x := range [][2]int{{1, 5}, {2, 3}, {9, 3}, {4, -7}, {0, 6}} {
		if e := q.Set(x[0], x[1]); e != api.OK {
			t.Fatal(e)
		}
	}
	if at, ok := q.Next(); at != -7 || !ok || q.Len() != 5 {
		t.Errorf("Next %d, %v; Len %d", at, ok, q.Len())
	}
	if l := q.Due(-8); len(l) != 0 || q.Len() != 5 {
		t.Errorf("%v", l)
	}
	if l := q.Due(5); !slices.Equal(l, []int{4, 2, 9, 1}) {
		t.Errorf("%v", l)
	}
	if l := q.Due(5); len(l) != 0 {
		t.Errorf("again: %v", l)
	}
	if l := q.Due(math.MaxInt); !slices.Equal(l, []int{0}) {
		t.Errorf("%v", l)
	}
	if at, ok := q.Next(); at != 0 || ok || q.Len() != 0 {
		t.Errorf("empty: %d, %v", at, ok)
	}
}

func TestP601Set(t *testing.T) {
	q := timer.New()
	if q.Set(-1, 0) != api.ErrArg || q.Len() != 0 {
		t.Error("negative id")
	}
	q.Set(3, 10)
	q.Set(3, 2)
	if l := q.Due(5); !slices.Equal(l, []int{3}) {
		t.Errorf("%v", l)
	}
	if l := q.Due(50); len(l) != 0 {
		t.Errorf("an earlier time is forgotten: %v", l)
	}
	for id := range 100 {
		if e := q.Set(id*1000, id); e != api.OK {
			t.Fatal(id, e)
		}
	}
	if q.Set(7, 1) != api.ErrMany || q.Set(-7, 1) != api.ErrArg || q.Len() != 100 {
		t.Error("a hundred are set")
	}
	if q.Set(5000, math.MaxInt) != api.OK || q.Len() != 100 {
		t.Error("one of them is set again")
	}
	if !q.Cancel(5000) || q.Set(7, math.MinInt) != api.OK {
		t.Error("after Cancel there is room")
	}
	if at, _ := q.Next(); at != math.MinInt {
		t.Error(at)
	}
}

func TestP601Cancel(t *testing.T) {
	q := timer.New()
	q.Set(1, 1)
	q.Set(2, 2)
	if q.Cancel(3) || !q.Cancel(1) || q.Cancel(1) || q.Cancel(-1) {
		t.Error("Cancel")
	}
	if l := q.Due(9); !slices.Equal(l, []int{2}) {
		t.Errorf("%v", l)
	}
	if q.Cancel(2) {
		t.Error("Due removes")
	}
}

func TestP601Apart(t *testing.T) {
	p, q := timer.New(), timer.New()
	p.Set(1, 1)
	if q.Len() != 0 || len(q.Due(9)) != 0 || p.Len() != 1 {
		t.Error("two objects affect one another")
	}
}

// Against a plain map: each id comes once, in order of time and id.
func TestP602(t *testing.T) {
	rnd := rand.New(rand.NewSource(1))
	q, want := timer.New(), map[int]int{}
	for range 20000 {
		id, at := rnd.Intn(130), rnd.Intn(50)
		switch rnd.Intn(8) {
		case 0:
			var due []int
			for id := range want {
				if want[id] <= at {
					due = append(due, id)
				}
			}
			slices.SortFunc(due, func(a, b int) int { return cmp.Or(want[a]-want[b], a-b) })
			for _, id := range due {
				delete(want, id)
			}
			if l := q.Due(at); !slices.Equal(l, due) {
				t.Fatalf("%v, not %v", l, due)
			}
		case 1:
			_, ok := want[id]
			delete(want, id)
			if q.Cancel(id) != ok {
				t.Fatal("Cancel")
			}
		default:
			_, ok := want[id]
			e := q.Set(id, at)
			if (e == api.OK) != (ok || len(want) < 100) {
				t.Fatal(e, len(want))
			}
			if e == api.OK {
				want[id] = at
			}
		}
		first, ok := 0, len(want) > 0
		for _, at := range want {
			first = at
		}
		for _, at := range want {
			first = min(first, at)
		}
		if at, some := q.Next(); at != first || some != ok || q.Len() != len(want) {
			t.Fatalf("Next %d, %v, not %d", at, some, first)
		}
	}
}
