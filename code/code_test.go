package code_test

import (
	"bytes"
	"math"
	"math/rand"
	"slices"
	"strings"
	"testing"

	"escrow/api"
	"escrow/code"
)

func TestP101Bytes(t *testing.T) {
	for _, c := range []struct {
		n    int
		want string
	}{
		{0, "\x00"}, {-1, "\x01"}, {1, "\x02"}, {63, "\x7e"}, {-64, "\x7f"}, {64, "\x81\x00"}, {-65, "\x81\x01"},
		{8191, "\xff\x7e"}, {8192, "\x81\x80\x00"},
		{math.MaxInt, "\x81\xff\xff\xff\xff\xff\xff\xff\xff\x7e"}, {math.MinInt, "\x81\xff\xff\xff\xff\xff\xff\xff\xff\x7f"},
	} {
		if b := code.Int([]byte("ab"), c.n); string(b) != "ab"+c.want {
			t.Errorf("Int %d: %x", c.n, b)
		}
	}
	if b := code.Text([]byte("a"), "\xffz\x00"); string(b) != "a\x06\xffz\x00" {
		t.Errorf("Text: %x", b)
	}
	if b := code.Text(nil, ""); string(b) != "\x00" {
		t.Errorf("empty Text: %x", b)
	}
	if b := code.Ints(nil, []int{64, -1}); string(b) != "\x04\x81\x00\x01" {
		t.Errorf("Ints: %x", b)
	}
	if b := code.Ints([]byte{7}, nil); string(b) != "\x07\x00" {
		t.Errorf("empty Ints: %x", b)
	}
}

func TestP101LeavesArguments(t *testing.T) {
	in := make([]byte, 1, 64)
	a, b, c := code.Int(in, 5), code.Text(in, "xyz"), code.Ints(in, []int{9})
	if !bytes.Equal(in[:64], make([]byte, 64)) {
		t.Error("an argument was written to")
	}
	a[0], b[0], c[0] = 1, 2, 3
	if in[0] != 0 {
		t.Error("a result shares memory with an argument")
	}
}

func TestP102Errors(t *testing.T) {
	ff := strings.Repeat("\xff", 8)
	for s, want := range map[string]api.Errno{
		"":                       api.ErrCut,
		"\x80":                   api.ErrBad,
		"\x80\x05":               api.ErrBad,
		"\x81":                   api.ErrCut,
		"\x81\x80":               api.ErrCut,
		"\x81\x80\x00":           api.OK,
		"\x81" + ff + "\x7f":     api.OK,
		"\x82" + ff:              api.ErrCut,
		"\x82" + ff + "\x00":     api.ErrBad,
		"\xff" + ff + "\xff":     api.ErrBad,
		"\x81" + ff + "\xff\x00": api.ErrBad,
		"\x81" + ff + "\xff":     api.ErrCut,
		"\x02\x00":               api.ErrMore,
	} {
		r := code.New([]byte(s))
		n := r.Int()
		if e := r.End(); e != want {
			t.Errorf("%x: %v, not %v", s, e, want)
		}
		if want != api.OK && want != api.ErrMore && n != 0 {
			t.Errorf("%x: %d beside an error", s, n)
		}
	}
}

func TestP102Lengths(t *testing.T) {
	for n, want := range map[int]api.Errno{-1: api.ErrMany, math.MinInt: api.ErrMany, 65536: api.ErrMany, 65535: api.ErrCut, 1: api.ErrCut, 0: api.OK} {
		b := code.Int(nil, n)
		text, list := code.New(b), code.New(b)
		if s, l := text.Text(), list.Ints(); s != "" || len(l) != 0 || text.End() != want || list.End() != want {
			t.Errorf("%d: %q %v, %v %v", n, s, l, text.End(), list.End())
		}
	}
	r := code.New([]byte("\x04\x02\x80"))
	if l := r.Ints(); len(l) != 0 || r.End() != api.ErrBad {
		t.Errorf("a list with a bad number: %v, %v", l, r.End())
	}
}

func TestP102KeepsFirstError(t *testing.T) {
	r := code.New([]byte("\x80\x02"))
	r.Int()
	if r.Int() != 0 || r.Text() != "" || len(r.Ints()) != 0 || r.End() != api.ErrBad {
		t.Errorf("after an error: %v", r.End())
	}
	r.Fail(api.ErrKind)
	if r.End() != api.ErrBad {
		t.Errorf("Fail replaced the error: %v", r.End())
	}
	r = code.New([]byte("\x02\x04"))
	r.Fail(api.OK)
	if n := r.Int(); n != 1 || r.End() != api.ErrMore {
		t.Errorf("Fail(OK): %d, %v", n, r.End())
	}
	if n := r.Int(); n != 2 || r.End() != api.OK {
		t.Errorf("ErrMore stayed: %d, %v", n, r.End())
	}
	r = code.New([]byte("\x02"))
	r.Fail(api.ErrKind)
	if n := r.Int(); n != 0 || r.End() != api.ErrKind {
		t.Errorf("Fail: %d, %v", n, r.End())
	}
}

func TestP102KeepsNoArgument(t *testing.T) {
	b := code.Text(nil, "abc")
	r := code.New(b)
	b[1] = 'z'
	if s := r.Text(); s != "abc" {
		t.Errorf("reads %q", s)
	}
}

func TestP103RoundTrip(t *testing.T) {
	rnd := rand.New(rand.NewSource(1))
	for range 2000 {
		n := int(rnd.Uint64()) >> rnd.Intn(64)
		raw := make([]byte, rnd.Intn(9))
		rnd.Read(raw)
		l := make([]int, rnd.Intn(4))
		for i := range l {
			l[i] = int(rnd.Uint64()) >> rnd.Intn(64)
		}
		b := code.Ints(code.Text(code.Int(nil, n), string(raw)), l)
		r := code.New(b)
		m, s, k := r.Int(), r.Text(), r.Ints()
		if m != n || s != string(raw) || !slices.Equal(k, l) || r.End() != api.OK {
			t.Fatalf("%d %q %v: %d %q %v %v", n, raw, l, m, s, k, r.End())
		}
	}
}

func TestP103SameBytes(t *testing.T) {
	rnd := rand.New(rand.NewSource(2))
	for range 20000 {
		b := make([]byte, 1+rnd.Intn(11))
		for i := range b {
			b[i] = byte(rnd.Intn(256))
			if i < len(b)-1 {
				b[i] |= 128
			}
		}
		r := code.New(b)
		n := r.Int()
		if r.End() == api.OK && !bytes.Equal(code.Int(nil, n), b) {
			t.Fatalf("%x is read as %d", b, n)
		}
	}
}
