package transactions

import "slices"

// Fault is what becomes of a packet.
type Fault uint8

// The faults.
const (
	Good    Fault = 0
	Lost    Fault = 1
	Damaged Fault = 2
)

// Wire decides what becomes of the packets, one after the other, of either side.
type Wire interface {
	Next() Fault
}

// Line is a wire with a list of faults.
type Line struct{ l []Fault }

// NewLine returns a wire with these faults; all packets behind them are good. (P6.1)
func NewLine(l ...Fault) *Line { return &Line{l: slices.Clone(l)} }

// Next returns what becomes of the next packet. (P6.1)
func (x *Line) Next() Fault {
	if x.Left() == 0 {
		return Good
	}
	next := x.l[0]
	x.l = x.l[1:]
	return next
}

// Left returns the number of faults that have not been used. (P6.1)
func (x *Line) Left() int {
	if x == nil {
		return 0
	}
	return len(x.l)
}
