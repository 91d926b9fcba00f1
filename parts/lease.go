package parts

import (
	"escrow/api"
	"escrow/code"
)

// How many things a lease that is read may have.
const (
	MaxSlices = 20
	MaxRanges = 100
)

// Lease writes a lease.
func (p *Pen) Lease(l api.Lease) {
	p.Int(l.Device, l.Epoch, l.Until, l.Last, len(l.Slices))
	for _, s := range l.Slices {
		p.Text(s.Key)
		p.Int(s.Up, s.Down, s.UsedUp, s.UsedDown)
	}
	p.Int(len(l.Ids))
	for _, r := range l.Ids {
		p.Int(r.From, r.To)
	}
	p.Ints(l.Used)
}

// Lease reads a lease.
func Lease(r *code.Reader) api.Lease {
	var l api.Lease
	Fill(r.Int, &l.Device, &l.Epoch, &l.Until, &l.Last)
	for range Count(r, MaxSlices) {
		s := api.Slice{Key: r.Text()}
		Fill(r.Int, &s.Up, &s.Down, &s.UsedUp, &s.UsedDown)
		l.Slices = append(l.Slices, s)
	}
	for range Count(r, MaxRanges) {
		var x api.Range
		Fill(r.Int, &x.From, &x.To)
		l.Ids = append(l.Ids, x)
	}
	l.Used = r.Ints()
	return l
}
