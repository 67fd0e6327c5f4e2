package frames_test

import (
	"fmt"
	"math"
	"slices"
	"testing"

	"plugboard/api"
	"plugboard/transactions"
)

// TestP11_2Examples: the results that the chapter lists.
func TestP11_2Examples(t *testing.T) {
	b := newBus(t, api.Full, nil, nil)
	l := []transactions.Try{reads(64), writes()}
	expectFrame(t, b, l, 12000, "[{4 []} {4 []}]; 841")
	expectState(t, "the first frame", b, 8, 0, ">sof 0, >in 0.0, >out 0.0, >data0")
	expectFrame(t, b, l, 840, "[{4 []}]; 719")
	expectState(t, "the second frame", b, 16, 1, ">sof 1, >in 0.0")
	expectFrame(t, b, l, -1, "[]; 0")
	expectState(t, "the third frame", b, 24, 2, ">sof 2")
}

// TestP11_2Empty: frames without transactions, with any budget.
func TestP11_2Empty(t *testing.T) {
	for _, s := range busSpeeds {
		for _, l := range [][]transactions.Try{nil, {}, make([]transactions.Try, 0, 5)} {
			x := newTwins(t, s, friendly, []transactions.Fault{})
			for _, budget := range around(0, 12000, 60000) {
				x.expectFrame(t, "no transactions", l, budget)
			}
			if n := len(around(0, 12000, 60000)); x.bus.Ticks() != n*stepOf(s) || x.wires[0].asked != n {
				t.Errorf("speed %d: %d ticks, %d packets behind %d frames", s, x.bus.Ticks(), x.wires[0].asked, n)
			}
		}
	}
}

// TestP11_2One: each transaction alone, with a budget of just its cost, one less, one
// more, and others.
func TestP11_2One(t *testing.T) {
	for _, s := range busSpeeds {
		for _, try := range samples() {
			cost := costOf(try)
			for _, budget := range around(0, cost, budgetOf(s)) {
				b := newBus(t, s, nil, nil)
				l, sum := b.Frame([]transactions.Try{try}, budget)
				sent := len(b.Trace())
				name := fmt.Sprintf("speed %d, %s, budget %d: %s, %d packets", s, tryText(try), budget, resultText(l, sum), sent)
				if budget < cost && (len(l) != 0 || sum != 0 || sent != 1) {
					t.Error(name + ": it is performed")
				}
				if budget >= cost && (len(l) != 1 || sum != cost || sent < 2) {
					t.Errorf("%s: it is not performed; it costs %d", name, cost)
				}
			}
		}
	}
}

// TestP11_2Beginnings: a list of which each beginning fits just so, with one bit time
// less, and with one more.
func TestP11_2Beginnings(t *testing.T) {
	list := []transactions.Try{reads(8), {}, writesIso(mixed(30, 1)...), sets(mixed(8, 2)...), reads(2000), readsIso(64), writes(), sets(), writes(mixed(64, 3)...)}
	for _, s := range busSpeeds {
		for n := range len(list) + 1 {
			sum := 0
			for _, try := range list[:n] {
				sum += costOf(try)
			}
			for _, budget := range around(sum) {
				x := newTwins(t, s, friendly, nil)
				x.expectFrame(t, fmt.Sprintf("%d transactions", n), list[:n], budget)
				x.expectFrame(t, "all transactions", list, budget)
			}
		}
	}
}

// TestP11_2Hidden: one that does not fit ends the frame, though smaller ones are
// behind it, also such that cost nothing.
func TestP11_2Hidden(t *testing.T) {
	small, big, nothing := writes(), reads(1024), transactions.Try{}
	for _, c := range []struct {
		l      []transactions.Try
		budget int
		want   string
	}{
		{[]transactions.Try{big, small}, 500, "[]; 0"},
		{[]transactions.Try{big, nothing, small}, 0, "[]; 0"},
		{[]transactions.Try{small, big, small, nothing}, 500, "[{4 []}]; 122"},
		{[]transactions.Try{small, nothing, big, nothing}, 500, "[{4 []} {0 []}]; 122"},
		{[]transactions.Try{nothing, small, small, small}, 243, "[{0 []} {4 []}]; 122"},
		{[]transactions.Try{nothing, small, small, nothing, small}, 244, "[{0 []} {4 []} {4 []} {0 []}]; 244"},
		{[]transactions.Try{nothing, nothing, small}, 0, "[{0 []} {0 []}]; 0"},
		{[]transactions.Try{nothing, nothing}, -1, "[]; 0"},
		{[]transactions.Try{nothing}, math.MinInt, "[]; 0"},
	} {
		for _, s := range busSpeeds {
			b := newBus(t, s, nil, nil)
			expectFrame(t, b, c.l, c.budget, c.want)
			if b.Ticks() != stepOf(s) {
				t.Errorf("speed %d, budget %d: %d ticks", s, c.budget, b.Ticks())
			}
		}
	}
}

// TestP11_2Wrong: transactions with an error cost nothing, send nothing, and have a zero
// outcome, wherever they stand.
func TestP11_2Wrong(t *testing.T) {
	for _, s := range busSpeeds {
		for _, bad := range wrong() {
			if transactions.Check(bad) == api.OK {
				t.Fatalf("%s has no error", tryText(bad))
			}
			b := newBus(t, s, friendly(), nil)
			expectFrame(t, b, []transactions.Try{bad, reads(8), bad, bad, writes(5), bad, writes()}, 327, "[{0 []} {1 [1]} {0 []} {0 []} {1 []} {0 []}]; 327")
			expectState(t, "behind "+tryText(bad), b, stepOf(s), 0, ">sof 0, >in 0.0, <data0 01, >ack, >out 0.0, >data0 05, <ack")
			expectFrame(t, b, []transactions.Try{bad}, 0, "[{0 []}]; 0")
			expectFrame(t, b, []transactions.Try{bad}, -1, "[]; 0")
		}
		x := newTwins(t, s, friendly, []transactions.Fault{})
		for _, budget := range around(0, budgetOf(s)) {
			x.expectFrame(t, "wrong ones", wrong(), budget)
		}
	}
}

// exact returns transactions that cost just as much together as the budget of a speed.
func exact(t *testing.T, s api.Speed) []transactions.Try {
	t.Helper()
	l := append(slices.Repeat([]transactions.Try{reads(114)}, 9), writes(mixed(129, 1)...))
	if s == api.High {
		l = append(slices.Repeat([]transactions.Try{reads(789)}, 7), writes(mixed(801, 1)...))
	}
	sum := 0
	for _, try := range l {
		sum += costOf(try)
	}
	if sum != budgetOf(s) {
		t.Fatalf("speed %d: they cost %d", s, sum)
	}
	return l
}

// TestP11_2Full: the budget of the speed is the limit, however much is passed. What
// costs just as much is performed, and nothing behind it but what costs nothing.
func TestP11_2Full(t *testing.T) {
	for _, s := range busSpeeds {
		whole := budgetOf(s)
		l := exact(t, s)
		more := append(slices.Clone(l), transactions.Try{}, writes(), transactions.Try{})
		for _, budget := range around(whole, 2*whole, 60000, 1000000) {
			x := newTwins(t, s, nil, nil)
			x.expectFrame(t, "just the budget of the speed", more, budget)
			o, sum := x.bus.Frame(more, budget)
			if budget >= whole && (sum != whole || len(o) != len(l)+1) {
				t.Errorf("speed %d, budget %d: %d outcomes, sum %d", s, budget, len(o), sum)
			}
			if budget >= 0 && budget < whole && (sum >= whole || len(o) != len(l)-1) {
				t.Errorf("speed %d, budget %d: %d outcomes, sum %d", s, budget, len(o), sum)
			}
		}
	}
}

// TestP11_2Many: as many equal transactions as fit into the budget of the speed, out of
// more and fewer.
func TestP11_2Many(t *testing.T) {
	for _, c := range []struct {
		try        transactions.Try
		full, high int
	}{{reads(64), 16, 83}, {writes(), 98, 491}, {readsIso(1024), 1, 6}, {writesIso(mixed(1023, 1)...), 1, 6}, {transactions.Try{}, math.MaxInt, math.MaxInt}} {
		for _, s := range busSpeeds {
			most := c.full
			if s == api.High {
				most = c.high
			}
			for _, n := range []int{0, 1, min(most-1, 700), min(most, 800), min(most, 900) + 1, 5000} {
				l, sum := newBus(t, s, nil, nil).Frame(slices.Repeat([]transactions.Try{c.try}, n), math.MaxInt)
				if want := min(n, most); len(l) != want || sum != want*costOf(c.try) {
					t.Errorf("speed %d, %d of %s: %d outcomes, sum %d", s, n, tryText(c.try), len(l), sum)
				}
			}
		}
	}
}

// TestP11_2Costs: the cost does not depend on what happens: an In costs Max bytes,
// whatever is answered, and all cost as much with any fault.
func TestP11_2Costs(t *testing.T) {
	for _, s := range busSpeeds {
		for _, try := range samples() {
			for _, r := range replies() {
				for _, f := range anyFault {
					b := newBus(t, s, replying(r, silent), transactions.NewLine(good, f))
					if l, sum := b.Frame([]transactions.Try{try}, 20000); sum != costOf(try) || len(l) != 1 {
						t.Errorf("speed %d, %s, reply %+v, fault %d: sum %d", s, tryText(try), r.ok, f, sum)
					}
				}
			}
		}
	}
}

// TestP11_2Answers: each transaction with each answer, and faults of each sort.
func TestP11_2Answers(t *testing.T) {
	for _, s := range busSpeeds {
		for _, try := range append(samples(), wrong()...) {
			for i, r := range replies() {
				device := func() *gadget { return replying(r, silent) }
				for _, faults := range [][]transactions.Fault{nil, {}, {lost}, {good, lost}, {good, good, damaged}, {good, good, good, unnamed}} {
					x := newTwins(t, s, device, faults)
					name := fmt.Sprintf("%s, reply %d, faults %v", tryText(try), i, faults)
					x.expectFrame(t, name, []transactions.Try{try, reads(8), try, writes(1), try}, 12000)
				}
			}
		}
	}
}

// TestP11_2Faults: all short lists of faults.
func TestP11_2Faults(t *testing.T) {
	list := []transactions.Try{reads(8), writes(1, 2), {}, readsIso(3), writesIso(4), sets(mixed(8, 1)...)}
	eachFaults(6, anyFault[:3], func(faults []transactions.Fault) {
		for _, s := range busSpeeds {
			x := newTwins(t, s, friendly, faults)
			x.expectFrame(t, fmt.Sprint("faults ", faults), list, 900)
			x.expectFrame(t, fmt.Sprint("faults ", faults), list[1:], 900)
		}
	})
}

// eachFaults calls f with all lists of n of these faults.
func eachFaults(n int, faults []transactions.Fault, f func([]transactions.Fault)) {
	l := make([]transactions.Fault, n)
	var set func(i int)
	set = func(i int) {
		if i == n {
			f(slices.Clone(l))
			return
		}
		for _, l[i] = range faults {
			set(i + 1)
		}
	}
	set(0)
}

// TestP11_2Order: outcomes stand in the order of their transactions.
func TestP11_2Order(t *testing.T) {
	for _, s := range busSpeeds {
		g := friendly()
		b := newBus(t, s, g, nil)
		l := []transactions.Try{reads(8), {What: api.In, Toggle: true, Max: 8}, reads(0), {}, writes(9), readsIso(2), reads(-1), reads(1)}
		expectFrame(t, b, l, 12000, "[{1 [1]} {6 []} {5 []} {0 []} {1 []} {1 [4]} {0 []} {1 [5]}]; 888")
		expect(t, "heard", heardText(g.heard), "sof 0, in 0.0, ack, in 0.0, ack, in 0.0, out 0.0, data0 09, in 0.0, in 0.0, ack")
	}
}
