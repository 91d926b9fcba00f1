package parts

import (
	"escrow/api"
	"escrow/code"
	"escrow/plain"
)

// Op writes an operation.
func (p *Pen) Op(o api.Op) {
	p.Dot(o.Dot)
	p.Int(o.Coll, o.Ver, o.Kind, o.Time)
	p.Text(o.Key, o.Text)
	p.Int(o.N, len(o.Dots))
	for _, d := range o.Dots {
		p.Dot(d)
	}
}

// Op reads an operation; it may be one that ops.Check refuses.
func Op(r *code.Reader) api.Op {
	o := api.Op{Dot: Dot(r)}
	Fill(r.Int, &o.Coll, &o.Ver, &o.Kind, &o.Time)
	o.Key, o.Text = r.Text(), r.Text()
	o.N = r.Int()
	for range Count(r, api.MaxDots) {
		o.Dots = append(o.Dots, Dot(r))
	}
	return o
}

// Dot writes a dot.
func (p *Pen) Dot(d api.Dot) { p.Int(d.Device, d.Epoch, d.Seq) }

// Dot reads a dot.
func Dot(r *code.Reader) api.Dot {
	var d api.Dot
	Fill(r.Int, &d.Device, &d.Epoch, &d.Seq)
	return d
}

// Count reads how many things follow; more than most is an error at once, and then nothing follows.
func Count(r *code.Reader, most int) int {
	n := r.Int()
	if !plain.Within(n, 0, most) {
		r.Fail(api.ErrMany)
		return 0
	}
	return n
}
