package kv

import (
	"escrow/api"
	"escrow/code"
	"escrow/parts"
)

// bytes writes changes: their number, and of each the collection, whether it deletes, the key, the value.
func bytes(l []Change) []byte {
	var p parts.Pen
	p.Int(len(l))
	for _, c := range l {
		p.Int(c.Coll)
		p.Flag(c.Del)
		p.Text(c.Key, c.Val)
	}
	return p.Bytes()
}

func parse(b []byte) ([]Change, api.Errno) {
	r := code.New(b)
	var l []Change
	for range r.Int() {
		c := Change{Coll: r.Int(), Del: r.Int() == 1, Key: r.Text(), Val: r.Text()}
		if c.Key == "" { // no record has such a key: its bytes have ended
			r.Fail(api.ErrBad)
			break
		}
		l = append(l, c)
	}
	if e := r.End(); e != api.OK {
		return nil, e
	}
	return l, api.OK
}
