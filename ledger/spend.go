package ledger

import (
	"slices"

	"escrow/api"
	"escrow/plain"
	"escrow/ranges"
)

// Spend takes the rights of an operation out of a lease.
func Spend(l api.Lease, o api.Op) (api.Lease, api.Errno) {
	out := plain.Lease(l)
	var e api.Errno
	switch o.Kind {
	case api.KCount:
		e = spendCount(&out, o)
	case api.KBind:
		e = spendId(&out, o.N)
	}
	return out, e
}

func spendCount(l *api.Lease, o api.Op) api.Errno {
	i := slices.IndexFunc(l.Slices, func(s api.Slice) bool { return s.Key == o.Key })
	if i < 0 {
		return api.ErrRights
	}
	s := &l.Slices[i]
	switch {
	case o.N > 0 && o.N > s.Up-s.UsedUp, o.N < 0 && -o.N > s.Down-s.UsedDown:
		return api.ErrRights
	case o.N > 0:
		s.UsedUp += o.N
	default:
		s.UsedDown -= o.N
	}
	return api.OK
}

func spendId(l *api.Lease, id int) api.Errno {
	if !ranges.Has(l.Ids, id) {
		return api.ErrRights
	}
	if _, used := slices.BinarySearch(l.Used, id); used {
		return api.ErrIs
	}
	l.Used = insert(l.Used, id)
	return api.OK
}

// Totals tells of a counter what is in the pool, leased and not used, used: first upwards, then downwards.
func Totals(b api.Book, key string) [6]int {
	i := findCounter(b.Counters, key)
	if i < 0 {
		return [6]int{}
	}
	c := b.Counters[i]
	up, down := 0, 0
	for _, l := range b.Leases {
		for _, s := range l.Slices {
			if s.Key == key {
				up += s.Up - s.UsedUp
				down += s.Down - s.UsedDown
			}
		}
	}
	return [6]int{c.Up, up, c.Hi - c.Start - c.Up - up, c.Down, down, c.Start - c.Lo - c.Down - down}
}
