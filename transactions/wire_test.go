package transactions_test

import (
	"testing"

	"plugboard/api"
	"plugboard/packets"
	"plugboard/transactions"
)

// TestNumbers: the numbers that other layers rely on.
func TestNumbers(t *testing.T) {
	if transactions.Good != 0 || transactions.Lost != 1 || transactions.Damaged != 2 {
		t.Error("the numbers of the faults")
	}
	if transactions.Done != 1 || transactions.Nak != 2 || transactions.Stall != 3 || transactions.None != 4 || transactions.Babble != 5 || transactions.Again != 6 {
		t.Error("the numbers of the results")
	}
}

// expectLine takes all faults of a wire, and some behind them.
func expectLine(t *testing.T, name string, x *transactions.Line, faults []transactions.Fault) {
	t.Helper()
	for i, f := range faults {
		if n := x.Left(); n != len(faults)-i {
			t.Errorf("%s: %d left in front of fault %d; expected %d", name, n, i, len(faults)-i)
		}
		if got := x.Next(); got != f {
			t.Errorf("%s: fault %d is %d; expected %d", name, i, got, f)
		}
	}
	for range 3 {
		if n := x.Left(); n != 0 {
			t.Errorf("%s: %d left behind the last fault", name, n)
		}
		if got := x.Next(); got != good {
			t.Errorf("%s: %d behind the last fault", name, got)
		}
	}
}

// TestP6_1Lines: all short lists of faults, and long ones.
func TestP6_1Lines(t *testing.T) {
	eachFaults(4, anyFault, func(l []transactions.Fault) {
		expectLine(t, faultsText(l), transactions.NewLine(l...), l)
	})
	every := make([]transactions.Fault, 3000)
	for i := range every {
		every[i] = transactions.Fault(i)
	}
	expectLine(t, "every fault", transactions.NewLine(every...), every)
}

// TestP6_1NoLine: nil and zero lines, and lines without faults.
func TestP6_1NoLine(t *testing.T) {
	var absent *transactions.Line
	expectLine(t, "nil", absent, nil)
	expectLine(t, "zero", &transactions.Line{}, nil)
	expectLine(t, "no faults", transactions.NewLine(), nil)
	if transactions.NewLine() == nil {
		t.Error("NewLine of no faults returns nil")
	}
}

// TestP6_1LinesAreApart: a wire does not depend on another one with its faults.
func TestP6_1LinesAreApart(t *testing.T) {
	l := []transactions.Fault{lost, damaged, unnamed}
	a, b := transactions.NewLine(l...), transactions.NewLine(l...)
	a.Next()
	expectLine(t, "second wire", b, l)
	expectLine(t, "first wire", a, l[1:])
}

// TestP6_1Func: the function is called once for each packet, and its answer is
// the one of the device.
func TestP6_1Func(t *testing.T) {
	for _, p := range []packets.Packet{token(api.In, 3, 4), data(api.Data1, 1, 2), data(api.Data0), hand(api.Ack), {}, data(99, 1)} {
		for _, r := range replies() {
			var heard []packets.Packet
			f := transactions.Func(func(p packets.Packet) (packets.Packet, bool) {
				heard = append(heard, p)
				return r.packet, r.ok
			})
			want := r.packet
			if !r.ok {
				want = packets.Packet{}
			}
			got, ok := f.Hear(p)
			if ok != r.ok || !packets.Same(got, want) {
				t.Errorf("Hear of %s: %s, %t; expected %s, %t", shown(p), shown(got), ok, shown(want), r.ok)
			}
			if len(heard) != 1 || !packets.Same(heard[0], p) {
				t.Errorf("Hear of %s: the function hears %s", shown(p), heardText(heard))
			}
		}
	}
}

// TestP6_1NilFunc: a nil function does not answer, also as a device.
func TestP6_1NilFunc(t *testing.T) {
	var f transactions.Func
	for _, r := range replies() {
		if p, ok := f.Hear(r.packet); ok || !packets.Same(p, packets.Packet{}) {
			t.Errorf("Hear of %s by a nil function: %s, %t", shown(r.packet), shown(p), ok)
		}
	}
	o, sent := transactions.Do(f, nil, transactions.Try{What: api.In, Max: 8})
	expect(t, "In from a nil function", outcomeText(o)+": "+sentText(sent), "none: >in 0.0")
}
