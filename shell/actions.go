package shell

import (
	"strconv"

	"escrow/api"
	"escrow/audit"
	"escrow/coll"
	"escrow/edge"
	"escrow/group"
	"escrow/local"
	"escrow/schema"
	"escrow/world"
)

// done tells whether something was done.
func done(yes bool) string {
	if !yes {
		return api.ErrNone.Error()
	}
	return api.OK.Error()
}

// numbers tells that all is well, and some numbers.
func numbers(l ...int) string {
	out := api.OK.Error()
	for _, n := range l {
		out += " " + strconv.Itoa(n)
	}
	return out
}

// texts tells an error, or that all is well, and some texts.
func texts(e api.Errno, l ...string) string {
	out := e.Error()
	if e != api.OK {
		return out
	}
	for _, s := range l {
		out += " " + Quote([]byte(s))
	}
	return out
}

func flag(yes bool) int {
	if yes {
		return 1
	}
	return 0
}

// client does something with the client that the first number names.
func (s session) client(a args, do func(*edge.Edge) string) string {
	c := s.world.Edge(a.n[0])
	if c == nil {
		return api.ErrNone.Error()
	}
	return do(c)
}

func ofClient(do func(*edge.Edge) api.Errno) action {
	return func(s session, a args) string {
		return s.client(a, func(c *edge.Edge) string { return do(c).Error() })
	}
}

func ofState(tell func(local.State, args) string) action {
	return func(s session, a args) string {
		return s.client(a, func(c *edge.Edge) string { return tell(c.State(), a) })
	}
}

func ofWorld(do func(*world.World, int) bool) action {
	return func(s session, a args) string { return done(do(s.world, a.n[0])) }
}

func ofGroup(do func(*group.Group, int) bool) action {
	return func(s session, a args) string { return done(do(s.world.Group(), a.n[0])) }
}

func order(do func(*world.World, int) api.Errno) action {
	return func(s session, a args) string { return do(s.world, a.n[0]).Error() }
}

func holds(is func(*world.World) bool) action {
	return func(s session, _ args) string { return numbers(flag(is(s.world))) }
}

func (s session) checkout(a args) string {
	want := api.Want{Key: a.t[0], Up: a.n[1], Down: a.n[2], Ids: a.n[3]}
	if want.Key == "-" {
		want.Key = ""
	}
	return s.client(a, func(c *edge.Edge) string { return c.Checkout([]api.Want{want}, a.n[4]).Error() })
}

func (s session) do(a args) string {
	o := api.Op{Coll: a.n[1], Kind: a.n[2], Key: a.t[0], Text: a.t[1], N: a.n[3]}
	return s.client(a, func(c *edge.Edge) string { return c.Do(o).Error() })
}

func (s session) send(a args) string { return done(s.world.Send(a.n[0], a.n[1])) }

func (s session) clock(a args) string { return s.world.Clock(a.n[0], nil).Error() }

func (s session) sync(a args) string {
	s.world.Sync(a.n[0])
	return numbers()
}

func (s session) crash(a args) string { return s.world.Crash(a.n[0], a.n[1]).Error() }

func (s session) values(args) string { return numbers(audit.Values(s.world)...) }

func (s session) convert(a args) string {
	text, e := schema.Up(a.t[0], a.n[0], a.n[1])
	return texts(e, text)
}

func read(s local.State, a args) string {
	text, e := coll.Reg(local.View(s, 0), a.t[0], api.MaxVersion)
	return texts(e, text)
}

func members(s local.State, a args) string {
	l, e := coll.Members(local.View(s, 0), a.t[0], api.MaxVersion)
	return texts(e, l...)
}

func count(s local.State, a args) string {
	sum := 0
	for c := range s.Colls {
		sum += coll.Count(local.View(s, c), a.t[0])
	}
	return numbers(sum)
}

func state(s local.State, _ args) string {
	return numbers(s.Epoch, s.Seq, s.Sent, len(s.Pending), s.At, s.Ends, flag(s.Fenced))
}
