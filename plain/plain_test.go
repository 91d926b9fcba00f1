package plain_test

import (
	"reflect"
	"strings"
	"testing"

	"escrow/api"
	"escrow/plain"
)

func TestWords(t *testing.T) {
	for n, want := range map[int][3]bool{-1: {}, 0: {true, true, false}, 1: {true, true, true}, 2: {true, true, true}, 3: {true, false, true}, 4: {true, false, false}, 5: {true, false, false}, 6: {}} {
		if got := [3]bool{plain.IsDevice(n), plain.IsColl(n), plain.IsVersion(n)}; got != want {
			t.Errorf("W1: %d: %v", n, got)
		}
	}
	forty := "\xff ~" + strings.Repeat("x", 37)
	for s, want := range map[string]bool{"": true, forty: true, forty + "x": false, "\x1f": false, "a\x7fb": false, "\x80": true, " ": true} {
		if plain.IsText(s) != want {
			t.Errorf("W2: %q: %v", s, !want)
		}
	}
	l := []api.Dot{{}, {Seq: 1}, {Epoch: 1}, {Epoch: 1, Seq: 2}, {Device: 1}, {Device: 1, Epoch: 0, Seq: 5}}
	for i, a := range l {
		for k, b := range l {
			if got := plain.DotOrder(a, b); (got < 0) != (i < k) || (got > 0) != (i > k) {
				t.Errorf("W3: %v, %v: %d", a, b, got)
			}
		}
	}
}

func TestCopies(t *testing.T) {
	lease := api.Lease{Slices: []api.Slice{{Key: "s"}}, Ids: []api.Range{{To: 1}}, Used: []int{1}}
	op := api.Op{Key: "k", Dots: []api.Dot{{Seq: 1}}}
	d := api.Desk{
		Book: api.Book{Counters: []api.Counter{{Key: "c"}}, Free: []api.Range{{To: 2}}, Leases: []api.Lease{lease}, Bound: []int{3}},
		Log:  []api.Op{op}, Lost: []api.Entry{{Seq: 4}},
	}
	d.Colls[1] = api.Coll{V: []api.Entry{{Seq: 1}}, Regs: make([]api.Reg, 1), Elems: make([]api.Elem, 1), Gone: make([]api.Dot, 1), Sums: make([]api.Sum, 1), Binds: make([]api.Bind, 1)}
	d.Dev[2].Reply.Lease = plain.Lease(lease)
	c := plain.Desk(d)
	if !reflect.DeepEqual(c, d) {
		t.Errorf("%v", c)
	}
	c.Book.Leases[0].Slices[0].Key, c.Log[0].Dots[0].Seq, c.Colls[1].Elems[0].Ver, c.Dev[2].Reply.Lease.Used[0], c.Book.Bound[0] = "?", 9, 9, 9, 9
	if lease.Slices[0].Key == "?" || op.Dots[0].Seq == 9 || d.Colls[1].Elems[0].Ver == 9 || d.Dev[2].Reply.Lease.Used[0] == 9 || d.Book.Bound[0] == 9 {
		t.Error("memory is shared")
	}
	if plain.List([]int{}) != nil {
		t.Error("an empty list has no memory")
	}
}
