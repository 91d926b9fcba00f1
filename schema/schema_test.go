package schema_test

import (
	"math"
	"math/rand"
	"testing"

	"escrow/api"
	"escrow/schema"
)

func TestP801Up(t *testing.T) {
	for _, c := range []struct {
		text     string
		from, to int
		want     string
		e        api.Errno
	}{
		{" A b ", 1, 3, "a b", api.OK},
		{" A b ", 1, 2, " a b ", api.OK},
		{" A b ", 2, 3, "A b", api.OK},
		{" A b ", 1, 1, " A b ", api.OK},
		{" A b ", 2, 2, " A b ", api.OK},
		{" A b ", 3, 3, " A b ", api.OK},
		{"AZ@[az\xc0\xff\xc3A\xe2\x82Z\u00c4\u212a", 1, 2, "az@[az\xc0\xff\xc3a\xe2\x82z\u00c4\u212a", api.OK},
		{"\t\u00a0 x\n  ", 1, 3, "\t\u00a0 x\n", api.OK},
		{"   ", 1, 3, "", api.OK},
		{"", 1, 3, "", api.OK},
		{"x", 0, 1, "", api.ErrArg},
		{"x", 1, 4, "", api.ErrArg},
		{"x", 4, 1, "", api.ErrArg},
		{"x", 3, 0, "", api.ErrArg},
		{"x", -1, math.MaxInt, "", api.ErrArg},
		{"x", 2, 1, "", api.ErrNew},
		{"x", 3, 2, "", api.ErrNew},
	} {
		if s, e := schema.Up(c.text, c.from, c.to); s != c.want || e != c.e {
			t.Errorf("%q, %d, %d: %q, %v", c.text, c.from, c.to, s, e)
		}
	}
}

func TestP801Pick(t *testing.T) {
	for mine := -1; mine < 6; mine++ {
		for theirs := -1; theirs < 6; theirs++ {
			want, we := mine, api.OK
			switch {
			case mine < 1 || mine > 3 || theirs < 1 || theirs > 3:
				want, we = 0, api.ErrArg
			case mine > theirs:
				want, we = 0, api.ErrNew
			}
			if n, e := schema.Pick(mine, theirs); n != want || e != we {
				t.Errorf("%d, %d: %d, %v", mine, theirs, n, e)
			}
		}
	}
}

func TestP802(t *testing.T) {
	rnd := rand.New(rand.NewSource(1))
	for range 2000 {
		b := make([]byte, rnd.Intn(12))
		for i := range b {
			b[i] = " AzZ\xc3\x84\t"[rnd.Intn(7)]
		}
		once, _ := schema.Up(string(b), 1, 3)
		half, _ := schema.Up(string(b), 1, 2)
		if twice, e := schema.Up(half, 2, 3); twice != once || e != api.OK {
			t.Fatalf("%q: %q, %q", b, once, twice)
		}
	}
}
