package plain

import (
	"escrow/api"
)

// List copies a list of values that hold no memory of their own.
func List[T any](l []T) []T {
	if len(l) == 0 {
		return nil
	}
	out := make([]T, len(l))
	copy(out, l)
	return out
}

// each copies a list whose elements need to be copied, too.
func each[T any](l []T, copied func(T) T) []T {
	out := List(l)
	for i := range out {
		out[i] = copied(out[i])
	}
	return out
}

// Op copies an operation.
func Op(o api.Op) api.Op {
	o.Dots = List(o.Dots)
	return o
}

// Ops copies operations.
func Ops(l []api.Op) []api.Op { return each(l, Op) }

// Lease copies a lease.
func Lease(l api.Lease) api.Lease {
	l.Slices, l.Ids, l.Used = List(l.Slices), List(l.Ids), List(l.Used)
	return l
}

// Book copies a book.
func Book(b api.Book) api.Book {
	b.Counters, b.Free, b.Bound = List(b.Counters), List(b.Free), List(b.Bound)
	b.Leases = each(b.Leases, Lease)
	return b
}

// Coll copies a collection.
func Coll(c api.Coll) api.Coll {
	return api.Coll{V: List(c.V), Regs: List(c.Regs), Elems: List(c.Elems), Gone: List(c.Gone), Sums: List(c.Sums), Binds: List(c.Binds)}
}

// Cmd copies a command.
func Cmd(c api.Cmd) api.Cmd {
	c.Wants, c.Ops = List(c.Wants), Ops(c.Ops)
	return c
}

// Reply copies a reply.
func Reply(r api.Reply) api.Reply {
	r.Lease = Lease(r.Lease)
	return r
}

// Desk copies a desk.
func Desk(d api.Desk) api.Desk {
	d.Book, d.Log, d.Lost = Book(d.Book), Ops(d.Log), List(d.Lost)
	for i := range d.Colls {
		d.Colls[i] = Coll(d.Colls[i])
	}
	for i := range d.Dev {
		d.Dev[i].Reply = Reply(d.Dev[i].Reply)
	}
	return d
}
