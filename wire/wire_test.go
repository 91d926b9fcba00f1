package wire_test

import (
	"bytes"
	"math"
	"math/rand"
	"reflect"
	"strings"
	"testing"

	"escrow/api"
	"escrow/code"
	"escrow/frames"
	"escrow/ops"
	"escrow/wire"
)

func op(seq int) api.Op {
	return api.Op{Dot: api.Dot{Device: 1, Epoch: 2, Seq: seq}, Coll: 1, Ver: 2, Kind: api.KRem, Key: "k", Text: "t", N: -7, Time: 9, Dots: []api.Dot{{Device: 1, Epoch: 1, Seq: 1}}}
}

func command() api.Cmd {
	return api.Cmd{Kind: 3, Device: 1, Epoch: 2, Req: -3, N: 400, Wants: []api.Want{{Key: "a", Up: 1, Down: 2, Ids: 3}, {Key: "\xff", Up: -1}}, Ops: []api.Op{op(1), op(2)}}
}

func reply() api.Reply {
	return api.Reply{Err: api.ErrGone, N: 6, Lease: api.Lease{Device: 1, Epoch: 2, Until: 3, Last: -1, Slices: []api.Slice{{Key: "s", Up: 4, Down: 5, UsedUp: 6, UsedDown: 7}}, Ids: []api.Range{{From: 8, To: 9}, {From: 10, To: 70}}, Used: []int{11, 12}}}
}

func messages() []wire.Msg {
	return []wire.Msg{
		{Kind: wire.MCmd, Device: 4, Cmd: command()},
		{Kind: wire.MReply, Device: 4, Req: 5, At: 6, Reply: reply()},
		{Kind: wire.MAsk, Device: 4, Ver: 3, At: 6, Subs: []bool{true, false, true}},
		{Kind: wire.MDelta, Device: 4, At: 6, Next: 8, Ops: []api.Op{op(3)}},
		{Kind: wire.MNo, Device: 4, Req: 5, Err: api.ErrNew},
	}
}

// numbers and texts in the encoding of chapter 1.
func enc(l ...any) []byte {
	var b []byte
	for _, x := range l {
		switch v := x.(type) {
		case int:
			b = code.Int(b, v)
		case string:
			b = code.Text(b, v)
		case []int:
			b = code.Ints(b, v)
		case []byte:
			b = append(b, v...)
		}
	}
	return b
}

func framed(b []byte) []byte {
	f, _ := frames.Frame(b)
	return f
}

func cmdBytes() []byte {
	return enc(3, 1, 2, -3, 400, 2, "a", 1, 2, 3, "\xff", -1, 0, 0, 2, ops.Bytes(nil, op(1)), ops.Bytes(nil, op(2)))
}

func TestP1401Cmd(t *testing.T) {
	if b := wire.Cmd(command()); !bytes.Equal(b, cmdBytes()) {
		t.Errorf("%x", b)
	}
	if b := wire.Cmd(api.Cmd{}); !bytes.Equal(b, make([]byte, 7)) {
		t.Errorf("%x", b)
	}
}

func TestP1401ParseCmd(t *testing.T) {
	if c, e := wire.ParseCmd(cmdBytes()); e != api.OK || !reflect.DeepEqual(c, command()) {
		t.Errorf("%v, %v", c, e)
	}
	for k := range cmdBytes() {
		if c, e := wire.ParseCmd(cmdBytes()[:k]); e != api.ErrCut || !reflect.DeepEqual(c, api.Cmd{}) {
			t.Errorf("%d bytes: %v, %v", k, c, e)
		}
	}
	wrong := op(0)
	kind := op(1)
	kind.Kind = 9
	dots := op(1)
	dots.Dots = make([]api.Dot, 9)
	for i, c := range []struct {
		b    []byte
		want api.Errno
	}{
		{append(cmdBytes(), 0), api.ErrMore},
		{enc(0, 0, 0, 0, 0, 21), api.ErrMany},
		{enc(0, 0, 0, 0, 0, -1), api.ErrMany},
		{enc(0, 0, 0, 0, 0, 21, []byte{128}), api.ErrMany},
		{enc(0, 0, 0, 0, 0, 20), api.ErrCut},
		{enc(0, 0, 0, 0, 0, 0, 21), api.ErrMany},
		{enc(0, 0, 0, 0, 0, 0, -1), api.ErrMany},
		{enc(0, 0, 0, 0, 0, 0, 20), api.ErrCut},
		{enc(0, 0, 0, 0, 0, 1, []byte{128}), api.ErrBad},
		{enc(0, 0, 0, 0, 0, 1, "k", 0, 0, 0, 1, ops.Bytes(nil, wrong)), api.ErrArg},
		{enc(0, 0, 0, 0, 0, 0, 2, ops.Bytes(nil, kind), ops.Bytes(nil, wrong)), api.ErrKind},
		{enc(0, 0, 0, 0, 0, 0, 1, ops.Bytes(nil, wrong), 0), api.ErrMore},
		{enc(0, 0, 0, 0, 0, 0, 2, ops.Bytes(nil, dots)), api.ErrMany},
		{wire.Cmd(api.Cmd{Wants: make([]api.Want, 21)}), api.ErrMany},
		{wire.Cmd(api.Cmd{Wants: []api.Want{{Key: strings.Repeat("x", 65536)}}}), api.ErrMany},
		{wire.Cmd(api.Cmd{Wants: make([]api.Want, 20), N: math.MinInt}), api.OK},
	} {
		if _, e := wire.ParseCmd(c.b); e != c.want {
			t.Errorf("%d: %v, not %v", i, e, c.want)
		}
	}
}

func TestP1402Bytes(t *testing.T) {
	o := ops.Bytes(nil, op(3))
	for i, want := range [][]byte{
		enc(1, 4, cmdBytes()),
		enc(2, 4, 5, 6, 22, 6, 1, 2, 3, -1, 1, "s", 4, 5, 6, 7, 2, 8, 9, 10, 70, []int{11, 12}),
		enc(3, 4, 3, 6, 1, 0, 1),
		enc(4, 4, 6, 8, 1, o),
		enc(5, 4, 5, 13),
	} {
		if b, e := wire.Bytes(messages()[i]); e != api.OK || !bytes.Equal(b, framed(want)) {
			t.Errorf("%d: %x, %v", i, b, e)
		}
	}
}

func TestP1402Errors(t *testing.T) {
	lease := func(l api.Lease) wire.Msg { return wire.Msg{Kind: wire.MReply, Reply: api.Reply{Lease: l}} }
	for i, c := range []struct {
		m    wire.Msg
		want api.Errno
	}{
		{wire.Msg{}, api.ErrKind},
		{wire.Msg{Kind: 6, Ops: make([]api.Op, 21)}, api.ErrKind},
		{wire.Msg{Kind: wire.MAsk}, api.ErrArg},
		{wire.Msg{Kind: wire.MAsk, Subs: make([]bool, 4)}, api.ErrArg},
		{wire.Msg{Kind: wire.MAsk, Subs: make([]bool, 3), Ops: make([]api.Op, 21)}, api.OK},
		{wire.Msg{Kind: wire.MCmd, Cmd: api.Cmd{Wants: make([]api.Want, 21)}}, api.ErrMany},
		{wire.Msg{Kind: wire.MCmd, Cmd: api.Cmd{Ops: make([]api.Op, 21)}}, api.ErrMany},
		{wire.Msg{Kind: wire.MCmd, Cmd: api.Cmd{Ops: make([]api.Op, 20), Wants: make([]api.Want, 20)}, Ops: make([]api.Op, 21)}, api.OK},
		{wire.Msg{Kind: wire.MDelta, Ops: make([]api.Op, 21)}, api.ErrMany},
		{wire.Msg{Kind: wire.MDelta, Ops: make([]api.Op, 20), Cmd: api.Cmd{Ops: make([]api.Op, 21)}}, api.OK},
		{lease(api.Lease{Slices: make([]api.Slice, 21)}), api.ErrMany},
		{lease(api.Lease{Ids: make([]api.Range, 101)}), api.ErrMany},
		{lease(api.Lease{Used: make([]int, 101)}), api.ErrMany},
		{lease(api.Lease{Slices: make([]api.Slice, 20), Ids: make([]api.Range, 100), Used: make([]int, 100)}), api.OK},
		{wire.Msg{Kind: wire.MNo, Err: 99}, api.OK},
		{wire.Msg{Kind: wire.MCmd, Cmd: api.Cmd{Wants: []api.Want{{Key: strings.Repeat("x", 1<<22)}}}}, api.ErrLong},
	} {
		if b, e := wire.Bytes(c.m); e != c.want || (e != api.OK) != (b == nil) {
			t.Errorf("%d: %v, not %v", i, e, c.want)
		}
	}
}

func TestP1403Errors(t *testing.T) {
	good, _ := wire.Bytes(messages()[0])
	broken := bytes.Clone(good)
	broken[20] ^= 1
	wrong, used := ops.Bytes(nil, op(0)), make([]int, 101)
	for i, c := range []struct {
		b    []byte
		want api.Errno
	}{
		{nil, api.ErrCut},
		{good[:len(good)-1], api.ErrCut},
		{append(bytes.Clone(good), 0), api.ErrMore},
		{broken, api.ErrBad},
		{framed(nil), api.ErrCut},
		{framed(enc(0)), api.ErrKind},
		{framed(enc(6, 0, 0)), api.ErrKind},
		{framed([]byte{128}), api.ErrBad},
		{framed(enc(5)), api.ErrCut},
		{framed(enc(5, 0, 0, 23)), api.ErrBad},
		{framed(enc(5, 0, 0, -1, 0)), api.ErrBad},
		{framed(enc(5, 0, 0, 22, 0)), api.ErrMore},
		{framed(enc(3, 0, 1, 0, 2)), api.ErrBad},
		{framed(enc(3, 0, 1, 0, 0, -1)), api.ErrBad},
		{framed(enc(3, 0, 1, 0, 0, 1)), api.ErrCut},
		{framed(enc(3, 0, 9, -9, 0, 1, 1)), api.OK},
		{framed(enc(4, 0, 0, 0, 21)), api.ErrMany},
		{framed(enc(4, 0, 0, 0, -1)), api.ErrMany},
		{framed(enc(4, 0, 0, 0, 20)), api.ErrCut},
		{framed(enc(4, 0, 0, 0, 1, wrong)), api.ErrArg},
		{framed(enc(4, 0, 0, 0, 1, wrong, 0)), api.ErrMore},
		{framed(enc(1, 0, 0, 0, 0, 0, 0, 21)), api.ErrMany},
		{framed(enc(1, 0, 0, 0, 0, 0, 0, 0, 21)), api.ErrMany},
		{framed(enc(1, 0, 0, 0, 0, 0, 0, 0, 1, wrong)), api.ErrArg},
		{framed(enc(2, 0, 0, 0, 23)), api.ErrBad},
		{framed(enc(2, 0, 0, 0, 0, 0, 0, 0, 0, 0, 21)), api.ErrMany},
		{framed(enc(2, 0, 0, 0, 0, 0, 0, 0, 0, 0, 0, 101)), api.ErrMany},
		{framed(enc(2, 0, 0, 0, 0, 0, 0, 0, 0, 0, 0, 100)), api.ErrCut},
		{framed(enc(2, 0, 0, 0, 0, 0, 0, 0, 0, 0, 0, 0, used)), api.ErrMany},
		{framed(enc(2, 0, 0, 0, 0, 0, 0, 0, 0, 0, 0, 0, used, 0)), api.ErrMore},
		{framed(enc(2, 0, 0, 0, 0, 0, 0, 0, 0, 0, 0, 0, used[:100])), api.OK},
		{framed(enc(2, 0, 0, 0, 0, 0, 0, 0, 0, 0, 0, 0, 70000)), api.ErrMany},
	} {
		if m, e := wire.Parse(c.b); e != c.want || e != api.OK && !reflect.DeepEqual(m, wire.Msg{}) {
			t.Errorf("%d: %v, not %v", i, e, c.want)
		}
	}
}

func TestP1403Same(t *testing.T) {
	for i, m := range messages() {
		for k, o := range messages() {
			if wire.Same(m, o) != (i == k) {
				t.Errorf("%d, %d", i, k)
			}
		}
	}
	used := map[int][]func(m *wire.Msg){
		0: {func(m *wire.Msg) { m.Device++ }, func(m *wire.Msg) { m.Cmd.Kind++ }, func(m *wire.Msg) { m.Cmd.Device++ }, func(m *wire.Msg) { m.Cmd.Epoch++ }, func(m *wire.Msg) { m.Cmd.Req++ }, func(m *wire.Msg) { m.Cmd.N++ }, func(m *wire.Msg) { m.Cmd.Wants[1].Ids++ }, func(m *wire.Msg) { m.Cmd.Ops[1].Dots[0].Seq++ }},
		1: {func(m *wire.Msg) { m.Req++ }, func(m *wire.Msg) { m.At++ }, func(m *wire.Msg) { m.Reply.Err-- }, func(m *wire.Msg) { m.Reply.N++ }, func(m *wire.Msg) { m.Reply.Lease.Last++ }, func(m *wire.Msg) { m.Reply.Lease.Used = nil }},
		2: {func(m *wire.Msg) { m.Ver++ }, func(m *wire.Msg) { m.At++ }, func(m *wire.Msg) { m.Subs[1] = true }},
		3: {func(m *wire.Msg) { m.At++ }, func(m *wire.Msg) { m.Next++ }, func(m *wire.Msg) { m.Ops[0].N++ }, func(m *wire.Msg) { m.Ops = nil }},
		4: {func(m *wire.Msg) { m.Req++ }, func(m *wire.Msg) { m.Err++ }, func(m *wire.Msg) { m.Device-- }},
	}
	for i, l := range used {
		for k, change := range l {
			m := messages()[i]
			if change(&m); wire.Same(m, messages()[i]) {
				t.Errorf("kind %d, change %d is not seen", i+1, k)
			}
		}
	}
	other := messages()[2]
	other.Req, other.Err, other.Next, other.Ops = 9, 9, 9, make([]api.Op, 1)
	if !wire.Same(other, messages()[2]) {
		t.Error("fields that the kind does not use are compared")
	}
}

func TestP1404(t *testing.T) {
	for _, m := range messages() {
		b, _ := wire.Bytes(m)
		if got, e := wire.Parse(b); e != api.OK || !wire.Same(got, m) || !reflect.DeepEqual(got, m) {
			t.Errorf("%v, %v", got, e)
		}
	}
	m := messages()[0]
	m.Req, m.Ver, m.At, m.Next, m.Subs, m.Err, m.Reply, m.Ops = 1, 1, 1, 1, make([]bool, 9), 1, reply(), []api.Op{op(1)}
	b, _ := wire.Bytes(m)
	if got, e := wire.Parse(b); e != api.OK || !wire.Same(got, m) || !reflect.DeepEqual(got, messages()[0]) {
		t.Errorf("%v, %v", got, e)
	}
}

// Bytes that are read as a message are the bytes of that message; none panics.
func TestP1404AnyBytes(t *testing.T) {
	rnd := rand.New(rand.NewSource(1))
	for range 20000 {
		b, _ := wire.Bytes(messages()[rnd.Intn(5)])
		record, _ := frames.One(b)
		for range 1 + rnd.Intn(2) {
			record[rnd.Intn(len(record))] = byte(rnd.Intn(256))
		}
		m, e := wire.Parse(framed(record))
		if e != api.OK {
			continue
		}
		if again, e := wire.Bytes(m); e != api.OK || !bytes.Equal(again, framed(record)) {
			t.Fatalf("%x: %v, %v", record, m, e)
		}
	}
}
