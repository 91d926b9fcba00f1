// Package parts writes and reads the shared types piece by piece, in the encoding of package code.
package parts

import (
	"escrow/code"
)

// Pen collects bytes; appending to its own memory spares copying all of it for each piece.
type Pen struct{ b []byte }

// Int writes numbers.
func (p *Pen) Int(l ...int) {
	for _, n := range l {
		p.b = append(p.b, code.Int(nil, n)...)
	}
}

// Text writes strings.
func (p *Pen) Text(l ...string) {
	for _, s := range l {
		p.b = append(p.b, code.Text(nil, s)...)
	}
}

// Ints writes a list of numbers.
func (p *Pen) Ints(l []int) {
	p.b = append(p.b, code.Ints(nil, l)...)
}

// Flag writes 1 for true and 0 for false.
func (p *Pen) Flag(l ...bool) {
	for _, yes := range l {
		n := 0
		if yes {
			n = 1
		}
		p.Int(n)
	}
}

// Raw writes bytes as they are.
func (p *Pen) Raw(b []byte) {
	p.b = append(p.b, b...)
}

// Bytes hands out what was written.
func (p *Pen) Bytes() []byte {
	return append([]byte(nil), p.b...)
}

// Fill reads numbers into places, in order.
func Fill(next func() int, l ...*int) {
	for _, n := range l {
		*n = next()
	}
}
