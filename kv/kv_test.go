package kv_test

import (
	"maps"
	"math/rand"
	"slices"
	"strconv"
	"strings"
	"testing"

	"escrow/api"
	"escrow/disk"
	"escrow/journal"
	"escrow/kv"
)

func newDisk(t *testing.T, room int) *disk.Disk {
	t.Helper()
	d, e := disk.New(room)
	if e != api.OK {
		t.Fatal(e)
	}
	return d
}

func open(t *testing.T, d *disk.Disk) *kv.Store {
	t.Helper()
	s, e := kv.Open(d)
	if e != api.OK {
		t.Fatal(e)
	}
	return s
}

func content(s *kv.Store) map[string]string {
	m := map[string]string{}
	for coll := range api.MaxColls {
		for _, p := range s.Scan(coll, "", 1000) {
			m[strconv.Itoa(coll)+p.Key] = p.Val
		}
	}
	return m
}

func TestP501Apply(t *testing.T) {
	d := newDisk(t, 10000)
	s := open(t, d)
	l := []kv.Change{{Key: "a", Val: "1"}, {Key: "b", Val: ""}, {Coll: 2, Key: "a", Val: "z"}, {Key: "a", Val: "2"}, {Key: "none", Del: true}, {Key: "c", Val: "x"}, {Key: "c", Del: true}}
	if e := s.Apply(l); e != api.OK {
		t.Fatal(e)
	}
	want := map[string]string{"0a": "2", "0b": "", "2a": "z"}
	for _, s := range []*kv.Store{s, open(t, d)} {
		if m := content(s); !maps.Equal(m, want) || s.Len() != 3 {
			t.Errorf("%v, %d", m, s.Len())
		}
	}
	ops := d.Ops()
	if s.Apply(nil) != api.OK || d.Ops() != ops {
		t.Error("no changes")
	}
}

func TestP501Errors(t *testing.T) {
	s := open(t, newDisk(t, 10000))
	long, ok := strings.Repeat("x", 41), strings.Repeat("\xff", 40)
	for _, c := range []struct {
		l    []kv.Change
		want api.Errno
	}{
		{make([]kv.Change, 21), api.ErrMany},
		{make([]kv.Change, 20), api.ErrLong},
		{[]kv.Change{{Coll: 3}}, api.ErrArg},
		{[]kv.Change{{Coll: -1, Key: "a"}}, api.ErrArg},
		{[]kv.Change{{Key: ""}}, api.ErrLong},
		{[]kv.Change{{Key: long}}, api.ErrLong},
		{[]kv.Change{{Key: "a", Val: long}}, api.ErrLong},
		{[]kv.Change{{Key: "a", Val: long, Del: true}}, api.ErrLong},
		{[]kv.Change{{Key: "a\n"}}, api.ErrLong},
		{[]kv.Change{{Key: "a\x7f"}}, api.ErrLong},
		{[]kv.Change{{Key: "a"}, {Key: ""}, {Coll: 9}}, api.ErrLong},
		{[]kv.Change{{Key: "a"}, {Coll: 9, Key: ""}, {Key: ""}}, api.ErrArg},
		{[]kv.Change{{Key: ok, Val: ok}}, api.OK},
	} {
		if e := s.Apply(c.l); e != c.want {
			t.Errorf("%v: %v, not %v", c.l, e, c.want)
		}
	}
	if s.Len() != 1 {
		t.Errorf("%v", content(s))
	}
}

func TestP501MaxKeys(t *testing.T) {
	s := open(t, newDisk(t, 100000))
	for i := range 15 {
		var l []kv.Change
		for k := range 20 {
			l = append(l, kv.Change{Coll: k % 3, Key: strconv.Itoa(i*20 + k)})
		}
		if e := s.Apply(l); e != api.OK {
			t.Fatal(e)
		}
	}
	for _, c := range []struct {
		l    []kv.Change
		want api.Errno
	}{
		{[]kv.Change{{Key: "new"}}, api.ErrMany},
		{[]kv.Change{{Key: "0", Del: true}, {Key: "new"}, {Key: "new2"}}, api.ErrMany},
		{[]kv.Change{{Key: "0", Del: true}, {Key: "new"}}, api.OK},
		{[]kv.Change{{Key: "new", Val: "v"}}, api.OK},
	} {
		if e := s.Apply(c.l); e != c.want || s.Len() != 300 {
			t.Errorf("%v: %v, %d", c.l, e, s.Len())
		}
	}
}

func TestP501Full(t *testing.T) {
	d := newDisk(t, 60)
	s := open(t, d)
	if e := s.Apply([]kv.Change{{Key: "a", Val: "1"}}); e != api.OK {
		t.Fatal(e)
	}
	for i := range 40 { // the log has no room for them all, a snapshot has
		if e := s.Apply([]kv.Change{{Key: "a", Val: strconv.Itoa(i)}}); e != api.OK {
			t.Fatal(i, e)
		}
	}
	if e := s.Apply([]kv.Change{{Key: "b", Val: strings.Repeat("x", 40)}}); e != api.ErrFull {
		t.Error(e)
	}
	for _, s := range []*kv.Store{s, open(t, d)} {
		if m := content(s); !maps.Equal(m, map[string]string{"0a": "39"}) {
			t.Errorf("%v", m)
		}
	}
	d.Stop(1)
	if e := s.Apply([]kv.Change{{Key: "a", Val: "n"}}); e != api.ErrDead {
		t.Error(e)
	}
	if v, ok := s.Get(0, "a"); v != "39" || !ok {
		t.Errorf("%q", v)
	}
	if s, e := kv.Open(d); s != nil || e != api.ErrDead {
		t.Error(e)
	}
	d.Crash(0)
	d.Swap([]byte("x"))
	if s, e := kv.Open(d); s != nil || e != api.ErrBad {
		t.Error(e)
	}
}

func TestP501Snapshots(t *testing.T) {
	d := newDisk(t, 100000)
	s := open(t, d)
	for i := range 40 {
		if e := s.Apply([]kv.Change{{Key: "k" + strconv.Itoa(i)}}); e != api.OK {
			t.Fatal(e)
		}
		if j, _, _, _ := journal.Open(d); j.Count() > 16 || i < 16 && j.Count() != i+1 {
			t.Errorf("%d records after %d batches", j.Count(), i+1)
		}
		if o := open(t, d); o.Len() != i+1 {
			t.Errorf("%d keys after %d batches", o.Len(), i+1)
		}
	}
}

func TestP502(t *testing.T) {
	s := open(t, newDisk(t, 10000))
	s.Apply([]kv.Change{{Key: "b", Val: "2"}, {Key: "a", Val: "1"}, {Key: "\xff", Val: "4"}, {Key: "ba", Val: "3"}, {Coll: 1, Key: "aa"}})
	if v, ok := s.Get(0, "ba"); v != "3" || !ok {
		t.Errorf("%q", v)
	}
	for coll, key := range map[int]string{0: "aa", 1: "a", 2: "a", 3: "a", -1: ""} {
		if v, ok := s.Get(coll, key); v != "" || ok {
			t.Errorf("%d %q: %q", coll, key, v)
		}
	}
	for _, c := range []struct {
		coll int
		from string
		n    int
		want string
	}{
		{0, "", 9, "a b ba \xff"}, {0, "", 4, "a b ba \xff"}, {0, "", 2, "a b"}, {0, "b", 2, "b ba"}, {0, "b\x00", 1, "ba"},
		{0, "c", 9, "\xff"}, {0, "\xff\xff", 9, ""}, {0, "", 0, ""}, {0, "", -1, ""}, {1, "", 1, "aa"}, {2, "", 5, ""}, {3, "", 5, ""}, {-1, "", 5, ""},
	} {
		var keys []string
		for _, p := range s.Scan(c.coll, c.from, c.n) {
			keys = append(keys, p.Key)
			if v, _ := s.Get(c.coll, p.Key); v != p.Val {
				t.Errorf("%q: %q", p.Key, p.Val)
			}
		}
		if strings.Join(keys, " ") != c.want {
			t.Errorf("%d %q %d: %q", c.coll, c.from, c.n, keys)
		}
	}
}

// Whenever the power fails, each batch is there completely or not at all.
func TestP503(t *testing.T) {
	for stop := 1; stop < 50; stop++ {
		rnd := rand.New(rand.NewSource(int64(stop)))
		d := newDisk(t, 2000)
		s := open(t, d)
		d.Stop(stop)
		before, now := map[string]string{}, map[string]string{}
		var e api.Errno
		for i := 0; e == api.OK; i++ {
			var l []kv.Change
			before, now = now, maps.Clone(now)
			for range 1 + rnd.Intn(5) {
				c := kv.Change{Coll: rnd.Intn(3), Key: string(rune('a' + rnd.Intn(9))), Val: strconv.Itoa(i), Del: rnd.Intn(3) == 0}
				l = append(l, c)
				if c.Del {
					delete(now, strconv.Itoa(c.Coll)+c.Key)
				} else {
					now[strconv.Itoa(c.Coll)+c.Key] = c.Val
				}
			}
			kept := slices.Clone(l)
			e = s.Apply(l)
			if !slices.Equal(l, kept) {
				t.Fatal("Apply changed its argument")
			}
		}
		if e != api.ErrDead || !maps.Equal(content(s), before) {
			t.Errorf("stop %d: %v, %v", stop, e, content(s))
		}
		d.Crash(rnd.Intn(1000))
		if m := content(open(t, d)); !maps.Equal(m, before) && !maps.Equal(m, now) {
			t.Errorf("stop %d: %v, neither %v nor %v", stop, m, before, now)
		}
	}
}
