package disk_test

import (
	"math"
	"testing"

	"escrow/api"
	"escrow/disk"
)

func open(t *testing.T, room int) *disk.Disk {
	t.Helper()
	d, e := disk.New(room)
	if e != api.OK {
		t.Fatal(e)
	}
	return d
}

func want(t *testing.T, d *disk.Disk, log, snap string, ops int) {
	t.Helper()
	if string(d.Log()) != log || string(d.Snap()) != snap || d.Ops() != ops {
		t.Errorf("log %q, snap %q, %d ops; not %q, %q, %d", d.Log(), d.Snap(), d.Ops(), log, snap, ops)
	}
}

func TestP301New(t *testing.T) {
	for room, e := range map[int]api.Errno{0: api.ErrArg, -1: api.ErrArg, 1: api.OK, 1 << 24: api.OK, 1<<24 + 1: api.ErrArg, math.MinInt: api.ErrArg} {
		d, got := disk.New(room)
		if got != e || (d == nil) != (e != api.OK) {
			t.Errorf("room %d: %v", room, got)
		}
	}
	d := open(t, 5)
	want(t, d, "", "", 0)
	if d.Dead() {
		t.Error("dead at first")
	}
}

func TestP301Operations(t *testing.T) {
	d := open(t, 10)
	b := []byte("abcd")
	if e := d.Append(b); e != api.OK {
		t.Error(e)
	}
	b[0] = 'z'
	want(t, d, "abcd", "", 1)
	for _, n := range []int{-1, 5, math.MaxInt} {
		if e := d.Cut(n); e != api.ErrArg {
			t.Errorf("Cut %d: %v", n, e)
		}
	}
	if e := d.Cut(3); e != api.OK {
		t.Error(e)
	}
	want(t, d, "abc", "", 2)
	if e := d.Swap([]byte("12345")); e != api.OK {
		t.Error(e)
	}
	want(t, d, "", "12345", 3)
	if e := d.Append([]byte("123456")); e != api.ErrFull {
		t.Error(e)
	}
	want(t, d, "", "12345", 3)
	if e := d.Append([]byte("abcde")); e != api.OK {
		t.Error(e)
	}
	if e := d.Swap(make([]byte, 11)); e != api.ErrFull {
		t.Error(e)
	}
	want(t, d, "abcde", "12345", 4)
	if e := d.Swap([]byte("0123456789")); e != api.OK || d.Sync() != api.OK {
		t.Error(e)
	}
	want(t, d, "", "0123456789", 6)
	d.Snap()[0] = 'x'
	want(t, d, "", "0123456789", 6)
}

func TestP301Cut(t *testing.T) {
	d := open(t, 10)
	d.Append([]byte("abc"))
	if d.Cut(4) != api.ErrArg || d.Cut(3) != api.OK {
		t.Error("Cut to the whole length")
	}
	want(t, d, "abc", "", 2)
	if d.Cut(0) != api.OK || d.Cut(0) != api.OK || d.Cut(1) != api.ErrArg {
		t.Error("Cut to nothing")
	}
	want(t, d, "", "", 4)
	d.Append([]byte("abc"))
	d.Cut(2) // what is left is synced
	if d.Crash(0) != 0 {
		t.Error("Crash kept bytes that are synced")
	}
	want(t, d, "ab", "", 6)
}

func TestP301Dead(t *testing.T) {
	d := open(t, 10)
	d.Append([]byte("ab"))
	d.Stop(1)
	if d.Sync() != api.ErrDead || !d.Dead() {
		t.Error("the power did not fail")
	}
	if d.Append(make([]byte, 99)) != api.ErrDead || d.Sync() != api.ErrDead || d.Cut(-1) != api.ErrDead || d.Swap(make([]byte, 99)) != api.ErrDead {
		t.Error("ErrDead comes first")
	}
	want(t, d, "ab", "", 1)
}

func TestP302Stop(t *testing.T) {
	for n := range 6 {
		for name, do := range map[string]func(d *disk.Disk) api.Errno{
			"append": func(d *disk.Disk) api.Errno { return d.Append([]byte("+")) },
			"sync":   func(d *disk.Disk) api.Errno { return d.Sync() },
			"cut":    func(d *disk.Disk) api.Errno { return d.Cut(1) },
			"swap":   func(d *disk.Disk) api.Errno { return d.Swap([]byte("s")) },
		} {
			d := open(t, 100)
			d.Append([]byte("abc"))
			d.Stop(n)
			for range n - 1 {
				d.Append(make([]byte, 101)) // not done, so not counted
				d.Cut(-1)
				if e := d.Sync(); e != api.OK {
					t.Fatalf("%s %d: too early", name, n)
				}
			}
			e := do(d)
			if (e == api.ErrDead) != (n > 0) || d.Dead() != (n > 0) {
				t.Errorf("%s at stop %d: %v", name, n, e)
			}
			done := n == 0 || n%2 == 0
			log, snap := "abc", ""
			switch {
			case name == "append":
				log = "abc+"
			case name == "cut" && done:
				log = "a"
			case name == "swap" && done:
				log, snap = "", "s"
			}
			if string(d.Log()) != log || string(d.Snap()) != snap {
				t.Errorf("%s at stop %d: %q, %q", name, n, d.Log(), d.Snap())
			}
		}
	}
}

func TestP302StopIsReplaced(t *testing.T) {
	d := open(t, 100)
	d.Stop(2)
	d.Sync()
	d.Stop(2)
	if d.Sync() != api.OK || d.Sync() != api.ErrDead {
		t.Error("a later Stop begins to count anew")
	}
	d.Crash(0)
	d.Stop(1)
	d.Stop(0)
	if d.Sync() != api.OK {
		t.Error("Stop(0) is no power loss")
	}
	d.Stop(1)
	d.Crash(0)
	if d.Sync() != api.OK {
		t.Error("Crash left a Stop")
	}
	d.Stop(math.MinInt)
	if d.Sync() != api.OK {
		t.Error("Stop of a negative number")
	}
}

func TestP302Crash(t *testing.T) {
	for pick, kept := range map[int]int{0: 0, 1: 1, 3: 3, 4: 0, 6: 2, -1: 3, -5: 3, math.MaxInt: math.MaxInt % 4, math.MinInt: 0} {
		d := open(t, 100)
		d.Append([]byte("ab"))
		d.Sync()
		d.Append([]byte("cde"))
		if n := d.Crash(pick); n != kept || string(d.Log()) != "abcde"[:2+kept] {
			t.Errorf("Crash %d: %d, %q", pick, n, d.Log())
		}
		if n := d.Crash(0); n != 0 || len(d.Log()) != 2+kept {
			t.Errorf("what is left is not synced: %d, %q", n, d.Log())
		}
	}
	d := open(t, 100)
	d.Append([]byte("abc"))
	d.Stop(1)
	d.Sync()
	if n := d.Crash(2); n != 2 || d.Dead() || string(d.Log()) != "ab" || d.Sync() != api.OK {
		t.Errorf("%d, %v, %q", n, d.Dead(), d.Log())
	}
}

func TestP303(t *testing.T) {
	for stop := 1; stop < 8; stop++ {
		for pick := range 7 {
			d := open(t, 100)
			d.Append([]byte("abc"))
			d.Sync()
			d.Stop(stop)
			for d.Append([]byte("d")) == api.OK && d.Append([]byte("e")) == api.OK && d.Sync() == api.OK {
			}
			d.Crash(pick)
			if s := string(d.Log()); len(s) < 3+(stop-1)/3*2 || s[:3] != "abc" {
				t.Errorf("stop %d, pick %d: %q", stop, pick, s)
			}
		}
	}
}
