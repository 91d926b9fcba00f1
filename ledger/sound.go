package ledger

import (
	"cmp"
	"slices"

	"escrow/api"
	"escrow/plain"
	"escrow/ranges"
)

// book is a book that is looked through; it may say anything.
type book api.Book

// Sound tells whether everything in a book fits together.
func Sound(b api.Book) bool {
	for _, holds := range []func(book) bool{book.counters, book.leases, book.rows, book.apart, book.used, book.totals} {
		if !holds(book(b)) {
			return false
		}
	}
	return true
}

// counters: more rights in the pool than there ever were are ruled out here, so that no later sum overflows.
func (b book) counters() bool {
	for i, c := range b.Counters {
		if !isCounter(c) || hasCounter(b.Counters[:i], c.Key) ||
			!plain.Within(c.Up, 0, c.Hi-c.Start) || !plain.Within(c.Down, 0, c.Start-c.Lo) {
			return false
		}
	}
	return true
}

func (b book) leases() bool {
	for i, l := range b.Leases {
		if !plain.IsDevice(l.Device) || i > 0 && b.Leases[i-1].Device >= l.Device || !b.slices(l.Slices) {
			return false
		}
	}
	return true
}

func (b book) slices(l []api.Slice) bool {
	for i, s := range l {
		twice := slices.ContainsFunc(l[:i], func(x api.Slice) bool { return x.Key == s.Key })
		if twice || !hasCounter(b.Counters, s.Key) || s.Up > maxRight || s.Down > maxRight ||
			!plain.Within(s.UsedUp, 0, s.Up) || !plain.Within(s.UsedDown, 0, s.Down) {
			return false
		}
	}
	return true
}

func (b book) rows() bool {
	for _, l := range b.Leases {
		if !isRow(l.Ids) {
			return false
		}
	}
	return isRow(b.Free)
}

// isRow tells whether ranges are in order and apart; what touches would be one range.
func isRow(l []api.Range) bool {
	end := -1
	for _, r := range l {
		if r.From <= end || r.From >= r.To || r.To > maxNumber {
			return false
		}
		end = r.To
	}
	return true
}

// apart: no identifier stands in two places. Rows are rows here.
func (b book) apart() bool {
	all := plain.List(b.Free)
	for _, l := range b.Leases {
		all = append(all, l.Ids...)
	}
	slices.SortFunc(all, func(x, y api.Range) int { return cmp.Compare(x.From, y.From) })
	for i := 1; i < len(all); i++ {
		if all[i].From < all[i-1].To {
			return false
		}
	}
	return !slices.ContainsFunc(b.Bound, func(n int) bool { return ranges.Has(all, n) })
}

func (b book) used() bool {
	for _, l := range b.Leases {
		foreign := slices.ContainsFunc(l.Used, func(n int) bool { return !ranges.Has(l.Ids, n) })
		if foreign || !ascends(l.Used) {
			return false
		}
	}
	return ascends(b.Bound)
}

func ascends(l []int) bool {
	for i := 1; i < len(l); i++ {
		if l[i-1] >= l[i] {
			return false
		}
	}
	return true
}

// totals: no more is in the pool and leased than there was.
func (b book) totals() bool {
	for _, c := range b.Counters {
		t := Totals(api.Book(b), c.Key)
		if owed := [2]int{min(t[2], 0), min(t[5], 0)}; owed != [2]int{} {
			return false
		}
	}
	return true
}
