package plain

import (
	"slices"

	"escrow/api"
)

// SameOp tells whether two operations are equal in all fields.
func SameOp(a, b api.Op) bool {
	return a.Dot == b.Dot && a.Coll == b.Coll && a.Ver == b.Ver && a.Kind == b.Kind && a.Key == b.Key &&
		a.Text == b.Text && a.N == b.N && a.Time == b.Time && slices.Equal(a.Dots, b.Dots)
}

// SameLease tells whether two leases are equal in all fields.
func SameLease(a, b api.Lease) bool {
	return a.Device == b.Device && a.Epoch == b.Epoch && a.Until == b.Until && a.Last == b.Last &&
		slices.Equal(a.Slices, b.Slices) && slices.Equal(a.Ids, b.Ids) && slices.Equal(a.Used, b.Used)
}

// SameReply tells whether two replies are equal in all fields.
func SameReply(a, b api.Reply) bool {
	return a.Err == b.Err && a.N == b.N && SameLease(a.Lease, b.Lease)
}

// SameCmd tells whether two commands are equal in all fields.
func SameCmd(a, b api.Cmd) bool {
	return a.Kind == b.Kind && a.Device == b.Device && a.Epoch == b.Epoch && a.Req == b.Req && a.N == b.N &&
		slices.Equal(a.Wants, b.Wants) && slices.EqualFunc(a.Ops, b.Ops, SameOp)
}
