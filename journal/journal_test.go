package journal_test

import (
	"slices"
	"strings"
	"testing"

	"escrow/api"
	"escrow/disk"
	"escrow/frames"
	"escrow/journal"
)

func newDisk(t *testing.T, room int) *disk.Disk {
	t.Helper()
	d, e := disk.New(room)
	if e != api.OK {
		t.Fatal(e)
	}
	return d
}

func open(t *testing.T, d *disk.Disk) (*journal.Journal, string, []string) {
	t.Helper()
	j, snap, l, e := journal.Open(d)
	if e != api.OK {
		t.Fatal(e)
	}
	if j.Count() != len(l) {
		t.Errorf("Count %d, %d records", j.Count(), len(l))
	}
	var records []string
	for _, b := range l {
		records = append(records, string(b))
	}
	return j, string(snap), records
}

func TestP401New(t *testing.T) {
	if _, snap, l := open(t, newDisk(t, 10)); snap != "" || len(l) != 0 {
		t.Errorf("%q, %q", snap, l)
	}
}

func TestP401AddAndSnap(t *testing.T) {
	d := newDisk(t, 1000)
	j, _, _ := open(t, d)
	for i, s := range []string{"a", "", "bcd"} {
		if e := j.Add([]byte(s)); e != api.OK || j.Count() != i+1 {
			t.Errorf("Add %q: %v, %d", s, e, j.Count())
		}
	}
	if _, snap, l := open(t, d); snap != "" || !slices.Equal(l, []string{"a", "", "bcd"}) {
		t.Errorf("%q, %q", snap, l)
	}
	if e := j.Snap([]byte("all")); e != api.OK || j.Count() != 0 {
		t.Errorf("Snap: %v, %d", e, j.Count())
	}
	j.Add([]byte("more"))
	if _, snap, l := open(t, d); snap != "all" || !slices.Equal(l, []string{"more"}) {
		t.Errorf("%q, %q", snap, l)
	}
	j.Snap(nil)
	if _, snap, l := open(t, d); snap != "" || len(l) != 0 || len(d.Snap()) != 8 {
		t.Errorf("%q, %q", snap, l)
	}
}

func TestP401WritesFrames(t *testing.T) {
	d := newDisk(t, 1000)
	j, _, _ := open(t, d)
	j.Add([]byte("abc"))
	if f, _ := frames.Frame([]byte("abc")); string(d.Log()) != string(f) || d.Ops() != 2 {
		t.Errorf("%x, %d", d.Log(), d.Ops())
	}
	j.Snap([]byte("xy"))
	if f, _ := frames.Frame([]byte("xy")); string(d.Snap()) != string(f) || len(d.Log()) != 0 || d.Ops() != 3 {
		t.Errorf("%x, %d", d.Snap(), d.Ops())
	}
}

func TestP401WriteErrors(t *testing.T) {
	d := newDisk(t, 20)
	j, _, _ := open(t, d)
	if e := j.Add(make([]byte, 13)); e != api.ErrFull || j.Count() != 0 || len(d.Log()) != 0 {
		t.Errorf("full: %v", e)
	}
	if e := j.Snap(make([]byte, 13)); e != api.ErrFull || len(d.Snap()) != 0 {
		t.Errorf("full: %v", e)
	}
	if j.Add(make([]byte, 1<<22+1)) != api.ErrLong || j.Snap(make([]byte, 1<<22+1)) != api.ErrLong {
		t.Error("long")
	}
	if e := j.Add(make([]byte, 12)); e != api.OK {
		t.Error(e)
	}
	d.Stop(1)
	if j.Snap(nil) != api.ErrDead || j.Add(nil) != api.ErrDead || j.Count() != 1 {
		t.Error("dead")
	}
	if j.Add(make([]byte, 1<<22+1)) != api.ErrLong {
		t.Error("the error of the frame comes first")
	}
}

func TestP401OpenErrors(t *testing.T) {
	wrongs := func(d *disk.Disk, want api.Errno) {
		t.Helper()
		if j, snap, l, e := journal.Open(d); e != want || j != nil || snap != nil || l != nil {
			t.Errorf("%v, %q, %q", e, snap, l)
		}
	}
	d := newDisk(t, 100)
	d.Swap([]byte("bad snapshot"))
	d.Append([]byte("tail"))
	wrongs(d, api.ErrBad)
	if string(d.Log()) != "tail" {
		t.Error("cut beside a bad snapshot")
	}
	d.Stop(1)
	d.Sync()
	wrongs(d, api.ErrDead)
	d = newDisk(t, 100)
	d.Swap([]byte("x"))
	wrongs(d, api.ErrBad)

	d = newDisk(t, 100)
	good, _ := frames.Frame([]byte("r"))
	d.Append(append(good, 1, 2, 3))
	d.Stop(1)
	wrongs(d, api.ErrDead)
	d.Crash(0)

	d = newDisk(t, 100)
	d.Append(append(good, 1, 2, 3))
	if _, _, l := open(t, d); !slices.Equal(l, []string{"r"}) || len(d.Log()) != len(good) {
		t.Errorf("%q, %x", l, d.Log())
	}
	ops := d.Ops()
	if open(t, d); d.Ops() != ops {
		t.Error("nothing is to be cut, and it was")
	}
}

// After any power loss: all that was added without an error, and at most one record more.
func TestP402(t *testing.T) {
	steps := strings.Fields("+a +bb =S +ccc +d =T +eeee")
	for stop := 1; stop < 14; stop++ {
		for pick := range 14 {
			d := newDisk(t, 1000)
			j, _, _ := open(t, d)
			d.Stop(stop)
			var states [][]string
			now := []string{""}
			states = append(states, now)
			var e api.Errno
			for _, s := range steps {
				if s[0] == '+' {
					e = j.Add([]byte(s[1:]))
					now = append(slices.Clone(now), s[1:])
				} else {
					e = j.Snap([]byte(s[1:]))
					now = []string{s[1:]}
				}
				states = append(states, now)
				if e != api.OK {
					break
				}
			}
			d.Crash(pick)
			_, snap, l := open(t, d)
			got := append([]string{snap}, l...)
			last := states[len(states)-1]
			if e == api.OK && !slices.Equal(got, last) || e != api.OK && !slices.Equal(got, last) && !slices.Equal(got, states[len(states)-2]) {
				t.Errorf("stop %d, pick %d: %q, last %q", stop, pick, got, last)
			}
		}
	}
}
