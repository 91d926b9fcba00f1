package frames_test

import (
	"bytes"
	"hash/crc32"
	"math/rand"
	"testing"

	"escrow/api"
	"escrow/frames"
)

func frame(t *testing.T, s string) []byte {
	t.Helper()
	b, e := frames.Frame([]byte(s))
	if e != api.OK {
		t.Fatalf("Frame %q: %v", s, e)
	}
	return b
}

func TestP201Crc(t *testing.T) {
	if c := frames.Crc([]byte("123456789")); c != 0xCBF43926 {
		t.Errorf("%x", c)
	}
	rnd := rand.New(rand.NewSource(1))
	for n := range 300 {
		b := make([]byte, n)
		rnd.Read(b)
		if frames.Crc(b) != crc32.ChecksumIEEE(b) {
			t.Errorf("%x: %x", b, frames.Crc(b))
		}
	}
}

func TestP201Frame(t *testing.T) {
	if b := frame(t, "123456789"); string(b) != "\x00\x00\x00\x09\xcb\xf4\x39\x26123456789" {
		t.Errorf("%x", b)
	}
	if b := frame(t, ""); !bytes.Equal(b, make([]byte, 8)) {
		t.Errorf("empty: %x", b)
	}
	big := make([]byte, 1<<22)
	if b, e := frames.Frame(big); e != api.OK || len(b) != 8+1<<22 {
		t.Errorf("longest: %d, %v", len(b), e)
	}
	if b, e := frames.Frame(append(big, 0)); e != api.ErrLong || b != nil {
		t.Errorf("too long: %d, %v", len(b), e)
	}
}

func TestP202One(t *testing.T) {
	good := frame(t, "abc")
	wrong := bytes.Clone(good)
	wrong[7] ^= 1
	for _, c := range []struct {
		b    []byte
		want api.Errno
	}{
		{good, api.OK},
		{nil, api.ErrCut},
		{good[:7], api.ErrCut},
		{good[:10], api.ErrCut},
		{append(bytes.Clone(good), 0), api.ErrMore},
		{append(bytes.Clone(wrong), 0), api.ErrMore},
		{wrong, api.ErrBad},
		{wrong[:10], api.ErrCut},
		{[]byte("\x00\x40\x00\x01\x00\x00\x00\x00"), api.ErrLong},
		{[]byte("\x00\x40\x00\x00\x00\x00\x00\x00"), api.ErrCut},
		{[]byte("\xff\xff\xff\xff\x00\x00\x00\x00"), api.ErrLong},
		{[]byte("\xff\xff\xff\xff\x00\x00\x00"), api.ErrCut},
		{make([]byte, 8), api.OK},
	} {
		record, e := frames.One(c.b)
		if e != c.want || e != api.OK && record != nil {
			t.Errorf("%x: %x, %v, not %v", c.b, record, e, c.want)
		}
	}
	if record, _ := frames.One(good); string(record) != "abc" {
		t.Errorf("%x", record)
	}
}

func TestP202LongAndMore(t *testing.T) {
	b := make([]byte, 8+1<<22+9)
	copy(b, "\x00\x40\x00\x01")
	if record, e := frames.One(b); e != api.ErrLong || record != nil {
		t.Errorf("%v", e)
	}
	copy(b, "\x00\x40\x00\x00")
	if record, e := frames.One(b); e != api.ErrMore || record != nil {
		t.Errorf("%v", e)
	}
	if l, n := frames.Scan(b); len(l) != 0 || n != 0 {
		t.Errorf("%d records, %d", len(l), n)
	}
}

func TestP202Scan(t *testing.T) {
	a, b := frame(t, "abc"), frame(t, "")
	all := append(bytes.Clone(a), b...)
	wrong := bytes.Clone(a)
	wrong[9] ^= 4
	for _, tail := range [][]byte{nil, a[:9], wrong, []byte("\x00\x40\x00\x01\x00\x00\x00\x00"), append(bytes.Clone(wrong), a...)} {
		l, n := frames.Scan(append(bytes.Clone(all), tail...))
		if len(l) != 2 || string(l[0]) != "abc" || len(l[1]) != 0 || n != len(all) {
			t.Errorf("tail %x: %q, %d", tail, l, n)
		}
	}
	if l, n := frames.Scan(nil); len(l) != 0 || n != 0 {
		t.Errorf("nothing: %q, %d", l, n)
	}
}

func TestP202SharesNothing(t *testing.T) {
	b := frame(t, "abc")
	l, _ := frames.Scan(b)
	record, _ := frames.One(b)
	l[0][0], record[1] = 'x', 'y'
	if string(b[8:]) != "abc" || string(l[0]) != "xbc" {
		t.Error("memory is shared")
	}
}

func TestP203(t *testing.T) {
	rnd := rand.New(rand.NewSource(3))
	for range 100 {
		var all []byte
		var want []string
		for range rnd.Intn(5) {
			raw := make([]byte, rnd.Intn(20))
			rnd.Read(raw)
			want = append(want, string(raw))
			all = append(all, frame(t, string(raw))...)
		}
		one := frame(t, "one more")
		for k := range one {
			l, n := frames.Scan(append(bytes.Clone(all), one[:k]...))
			if len(l) != len(want) || n != len(all) {
				t.Fatalf("prefix %d: %d records of %d, %d bytes of %d", k, len(l), len(want), n, len(all))
			}
			for i := range l {
				if string(l[i]) != want[i] {
					t.Fatalf("record %d: %x", i, l[i])
				}
			}
		}
	}
}
