// Package code writes integers, strings and lists as bytes, and reads them again.
package code

import (
	"slices"

	"escrow/api"
)

const (
	maxLength = 65535 // of a string or a list that is read
	more      = 128   // marks a byte that is not the last one of its number
)

// Int returns b followed by n: seven bits a byte, the most significant ones first.
func Int(b []byte, n int) []byte {
	return appendInt(fresh(b), n)
}

// Text returns b followed by the length of s and its bytes.
func Text(b []byte, s string) []byte {
	return append(appendInt(fresh(b), len(s)), s...)
}

// Ints returns b followed by the length of l and its elements.
func Ints(b []byte, l []int) []byte {
	out := appendInt(fresh(b), len(l))
	for _, n := range l {
		out = appendInt(out, n)
	}
	return out
}

// fresh copies b, so that nothing is written into the spare room of what the caller holds.
func fresh(b []byte) []byte {
	return append([]byte(nil), b...)
}

// fold maps small numbers of either sign to small unsigned ones.
func fold(n int) uint64 {
	return uint64(n)<<1 ^ uint64(n>>63)
}

func unfold(u uint64) int {
	return int(u>>1) ^ -int(u&1)
}

func appendInt(b []byte, n int) []byte {
	u := fold(n)
	groups := []byte{byte(u % more)}
	for u >>= 7; u > 0; u >>= 7 {
		groups = append(groups, more|byte(u%more))
	}
	slices.Reverse(groups)
	return append(b, groups...)
}

// fault is what a reading step throws; read catches it.
type fault struct{ err api.Errno }

// Reader reads what was written, and keeps the first error.
type Reader struct {
	rest []byte
	err  api.Errno
}

// New returns a Reader of b, from its beginning.
func New(b []byte) *Reader {
	return &Reader{rest: fresh(b)}
}

// Int reads a number.
func (r *Reader) Int() int { return read(r, r.number) }

// Text reads a string.
func (r *Reader) Text() string { return read(r, r.text) }

// Ints reads a list of numbers.
func (r *Reader) Ints() []int { return read(r, r.numbers) }

// Fail makes e the error, if there is none yet.
func (r *Reader) Fail(e api.Errno) {
	if r.err == api.OK {
		r.err = e
	}
}

// End tells the error; bytes that are left are one, too.
func (r *Reader) End() api.Errno {
	if r.err == api.OK && len(r.rest) > 0 {
		return api.ErrMore
	}
	return r.err
}

// read does a step, unless an error was found before; a fault that the step throws becomes the error.
func read[T any](r *Reader, step func() T) (v T) {
	if r.err != api.OK {
		return v
	}
	defer func() {
		if f, ok := recover().(fault); ok {
			var none T
			r.err, v = f.err, none
		}
	}()
	return step()
}

func (r *Reader) next() byte {
	if len(r.rest) == 0 {
		panic(fault{api.ErrCut})
	}
	x := r.rest[0]
	r.rest = r.rest[1:]
	return x
}

func (r *Reader) number() int {
	x := r.next()
	if x == more { // leading bits that are all zero: a byte too many
		panic(fault{api.ErrBad})
	}
	u := uint64(x % more)
	for x >= more {
		x = r.next()
		if u>>57 != 0 {
			panic(fault{api.ErrBad})
		}
		u = u<<7 | uint64(x%more)
	}
	return unfold(u)
}

func (r *Reader) length() int {
	n := r.number()
	if n < 0 || n > maxLength {
		panic(fault{api.ErrMany})
	}
	return n
}

func (r *Reader) text() string {
	n := r.length()
	if n > len(r.rest) {
		panic(fault{api.ErrCut})
	}
	s := string(r.rest[:n])
	r.rest = r.rest[n:]
	return s
}

func (r *Reader) numbers() []int {
	var l []int
	for range r.length() {
		l = append(l, r.number())
	}
	return l
}
