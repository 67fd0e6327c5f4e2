package periodics_test

import (
	"bytes"
	"fmt"
	"math/rand"
	"slices"
	"testing"

	"plugboard/api"
	"plugboard/periodics"
	"plugboard/transactions"
)

// guarded is memory with more behind it, and what all of it was.
type guarded struct{ whole, was []byte }

// guard lays bytes into new memory.
func guard(b []byte) *guarded {
	whole := append(bytes.Clone(b), "behind it"...)
	return &guarded{whole, bytes.Clone(whole)}
}

// bytes returns the bytes, with spare capacity.
func (g *guarded) bytes() []byte { return g.whole[:len(g.whole)-len("behind it")] }

// expectStays checks that nothing has changed.
func (g *guarded) expectStays(t *testing.T, name string) {
	t.Helper()
	if !bytes.Equal(g.whole, g.was) {
		t.Errorf("%s: the memory of an argument changes", name)
	}
}

// spoil overwrites the bytes of a slice, and what lies behind them.
func spoil(b []byte) {
	for i := range b[:cap(b)] {
		b[:cap(b)][i] ^= 0xff
	}
}

// expectOwn checks that a slice has these bytes, and no spare capacity; then it
// spoils it.
func expectOwn(t *testing.T, name string, got, want []byte) {
	t.Helper()
	if !bytes.Equal(got, want) || len(got) != cap(got) {
		t.Errorf("%s: %s, capacity %d; expected %s", name, short(fmt.Sprint(got)), cap(got), short(fmt.Sprint(want)))
	}
	spoil(got)
}

// expectOwnPieces does so with the pieces of a transfer, and with their list.
func expectOwnPieces(t *testing.T, name string, x periodics.Transfer, want ...[]byte) {
	t.Helper()
	l, over := periodics.End(x)
	if !over || len(l) != len(want) || cap(l) != len(want) {
		t.Errorf("%s: %d pieces, capacity %d; expected %d", name, len(l), cap(l), len(want))
		return
	}
	for i := range l {
		expectOwn(t, name, l[i].Data, want[i])
		l[i] = periodics.Piece{Errno: 99}
	}
}

// TestR1Start: Start changes neither packets nor their list, and keeps neither; the
// data of transactions are new memory.
func TestR1Start(t *testing.T) {
	for _, n := range []int{1, 2, 255, 256} {
		var list [][]byte
		var guards []*guarded
		for i := range n {
			guards = append(guards, guard(mixed(i%9, i)))
			list = append(list, guards[i].bytes())
		}
		whole := append(list, []byte("behind it"))
		x := started(t, periodics.Plan{Endp: 1, Max: 8, Packets: whole[:n]})
		if string(whole[n]) != "behind it" {
			t.Error("Start changes what is behind the list")
		}
		for i, g := range guards {
			g.expectStays(t, "Start")
			if !bytes.Equal(whole[i], g.bytes()) {
				t.Error("Start changes the list")
			}
			spoil(g.whole)
			whole[i] = nil
		}
		for i := range n {
			for range 2 {
				try, _ := periodics.Next(x)
				expectOwn(t, "a packet", try.Data, mixed(i%9, i))
			}
			x = periodics.Answer(x, done())
		}
		expectOwnPieces(t, "End", x, make([][]byte, n)...)
	}
}

// TestR1StartError: Start does not change packets that have an error either.
func TestR1StartError(t *testing.T) {
	for _, max := range []int{0, 2} {
		first, second := guard([]byte{1, 2}), guard([]byte{3, 4, 5})
		l := [][]byte{first.bytes(), second.bytes(), {6}}
		_, e := periodics.Start(periodics.Plan{Endp: 1, Max: max, Packets: l[:2]})
		if e == api.OK || fmt.Sprint(l) != "[[1 2] [3 4 5] [6]]" {
			t.Errorf("Start: error %d, %v", e, l)
		}
		first.expectStays(t, "Start")
		second.expectStays(t, "Start")
	}
}

// TestR1Answer: Answer neither changes the data of an outcome, nor keeps its memory;
// the pieces of End, and their data, are new memory.
func TestR1Answer(t *testing.T) {
	for _, n := range []int{0, 1, 7, 8} {
		x := started(t, reading(3, 8))
		for i := range 3 {
			g := guard(mixed(n, i))
			for _, o := range anyOutcome(8) {
				periodics.Answer(x, transactions.Outcome{Result: o.Result, Data: g.bytes()})
			}
			x = periodics.Answer(x, transactions.Outcome{Result: transactions.Done, Data: g.bytes()})
			g.expectStays(t, "Answer")
			spoil(g.whole)
		}
		for range 3 {
			expectOwnPieces(t, "End", x, mixed(n, 0), mixed(n, 1), mixed(n, 2))
		}
	}
	for _, r := range []transactions.Result{transactions.Done, transactions.Babble, transactions.None} {
		g := guard(mixed(9, 1))
		for _, p := range []periodics.Plan{reading(1, 8), writing(8, 8)} {
			x := periodics.Answer(started(t, p), transactions.Outcome{Result: r, Data: g.bytes()})
			expectOwnPieces(t, "End", x, nil)
		}
		g.expectStays(t, "Answer")
	}
}

// TestR1Branches: transfers behind the same one do not depend on each other.
func TestR1Branches(t *testing.T) {
	first := periodics.Answer(started(t, reading(3, 8)), done(mixed(8, 1)...))
	var branches []periodics.Transfer
	for i := range 9 {
		branches = append(branches, periodics.Answer(first, done(mixed(i, 10*i)...)))
	}
	for i, x := range branches {
		expectOwnPieces(t, "a branch", periodics.Answer(x, done(byte(i))), mixed(8, 1), mixed(i, 10*i), []byte{byte(i)})
	}
	expect(t, "End in front of the branches", endText(periodics.End(first)), endText(nil, false))
	expectOwnPieces(t, "the first one", answered(first, none, done(7)), mixed(8, 1), nil, []byte{7})
	first = started(t, writing(8, 3, 4))
	second := periodics.Answer(first, none)
	for range 2 {
		try, _ := periodics.Next(first)
		expectOwn(t, "the first packet", try.Data, mixed(3, 1))
		try, _ = periodics.Next(second)
		expectOwn(t, "the second packet", try.Data, mixed(4, 41))
	}
	expect(t, "two branches", endText(periodics.End(periodics.Answer(second, babble)))+endText(periodics.End(answered(first, done(), done()))), "[{11 []} {13 []}], true[{0 []} {0 []}], true")
}

// TestR3NilIsEmpty: nil and empty slices are the same argument.
func TestR3NilIsEmpty(t *testing.T) {
	for _, l := range [][][]byte{nil, {}, make([][]byte, 0, 9)} {
		for _, in := range either {
			for many := range 3 {
				expectStart(t, periodics.Plan{In: in, Endp: 1, Max: 8, Packets: l, Many: many})
			}
		}
	}
	for _, b := range [][]byte{nil, {}, make([]byte, 0, 9)} {
		expectOutcomes(t, periodics.Plan{Endp: 1, Max: 8, Packets: [][]byte{b, {1}, b}}, []transactions.Outcome{done(), {Result: transactions.Done, Data: b}, none})
		p := expectOutcomes(t, reading(2, 8), []transactions.Outcome{{Result: transactions.Done, Data: b}, {Result: transactions.None, Data: b}})
		expectOwnPieces(t, "End", p.x, nil, nil)
	}
}

// FuzzTransfers: any plans, with any outcomes, and with a device and any faults; and
// any pipes.
func FuzzTransfers(f *testing.F) {
	f.Add(true, uint8(1), 8, 10, 8, 3, 4, []byte("isochronous transfers"))
	f.Add(false, uint8(15), 1024, 0, 256, 255, 1048576, []byte{0, 1, 2, 255})
	f.Add(false, uint8(16), 1025, -1, 6, 0, -1, []byte{})
	f.Fuzz(func(t *testing.T, in bool, endp uint8, max, many, period, phase, tick int, b []byte) {
		plan := periodics.Plan{In: in, Endp: endp, Max: max, Many: many}
		for i, n := range b {
			plan.Packets = append(plan.Packets, mixed(int(n)*5, i))
		}
		expectStart(t, plan)
		fuzzTransfer(t, in, 1+max&1023, b)
		expectPeriod(t, api.Speed(endp%4), api.Kind(endp/4%5), many)
		if got := periodics.Due(period, phase, tick); got != isDue(period, phase, tick) {
			t.Errorf("Due of %d, %d, %d: %t", period, phase, tick, got)
		}
		if got := periodics.Count(period, phase, tick, many); got != countExactly(period, phase, tick, many) {
			t.Errorf("Count of %d, %d, %d, %d: %d", period, phase, tick, many, got)
		}
		if got, want := first(period, phase, tick, 3), ticksFrom(period, phase, tick, 3); !slices.Equal(got, want) {
			t.Errorf("All of %d, %d, %d: %v; expected %v", period, phase, tick, got, want)
		}
	})
}

// fuzzTransfer answers a transfer with outcomes, and performs one with a device.
func fuzzTransfer(t *testing.T, in bool, max int, b []byte) {
	t.Helper()
	n := min(1+len(b)*2/3, 256)
	plan := reading(n, max)
	if !in {
		plan = periodics.Plan{Endp: 1, Max: max, Packets: packetsOf(n, max)}
	}
	var outcomes []transactions.Outcome
	var faults []transactions.Fault
	for _, x := range b {
		all := anyOutcome(max)
		outcomes = append(outcomes, all[int(x)%len(all)])
		faults = append(faults, transactions.Fault(x/128))
	}
	expectOutcomes(t, plan, outcomes)
	l := newLink(t, in, max, &chance{rand.New(rand.NewSource(int64(len(b)))), 800}, "a device by chance")
	if len(faults) < 256 {
		l = newLink(t, in, max, transactions.NewLine(faults...), fmt.Sprint("a device, faults ", faults))
	}
	if in {
		l.expectRead(t, max, n, n)
	} else {
		l.expectWritten(t, max, n, n)
	}
}
