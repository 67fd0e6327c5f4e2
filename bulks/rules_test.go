package bulks_test

import (
	"bytes"
	"math/rand"
	"slices"
	"strconv"
	"testing"

	"plugboard/api"
	"plugboard/bulks"
	"plugboard/transactions"
)

// guarded is memory with more behind it, and what all of it was.
type guarded struct{ whole, was []byte }

// guard lays bytes into new memory.
func guard(b []byte) *guarded {
	whole := append(bytes.Clone(b), "behind it"...)
	return &guarded{whole, bytes.Clone(whole)}
}

// bytes returns the bytes, with spare capacity.
func (g *guarded) bytes() []byte { return g.whole[:len(g.whole)-len("behind it")] }

// expectStays checks that nothing has changed.
func (g *guarded) expectStays(t *testing.T, name string) {
	t.Helper()
	if !bytes.Equal(g.whole, g.was) {
		t.Errorf("%s: the memory of an argument changes", name)
	}
}

// spoil overwrites the bytes of a slice, and what lies behind them.
func spoil(b []byte) {
	for i := range b[:cap(b)] {
		b[:cap(b)][i] ^= 0xff
	}
}

// expectOwn checks that a slice has these bytes, and no spare capacity; then it
// spoils it.
func expectOwn(t *testing.T, name string, got, want []byte) {
	t.Helper()
	expectBytes(t, name, got, want)
	if len(got) != cap(got) {
		t.Errorf("%s: length %d, capacity %d", name, len(got), cap(got))
	}
	spoil(got)
}

// expectOwnList does so with each packet of a list, and with the list itself.
func expectOwnList(t *testing.T, name string, got, want [][]byte) {
	t.Helper()
	if len(got) != len(want) || len(got) != cap(got) {
		t.Errorf("%s: length %d, capacity %d; expected %d", name, len(got), cap(got), len(want))
		return
	}
	for i := range got {
		expectOwn(t, name+", packet "+strconv.Itoa(i), got[i], want[i])
		got[i] = nil
	}
}

// TestR1Cut: Cut changes nothing, and its packets share no memory with its bytes nor
// with each other.
func TestR1Cut(t *testing.T) {
	for _, zero := range either {
		for _, max := range []int{0, 1, 8, 13, 1024} {
			for _, n := range []int{0, 1, 7, 8, 9, 24, 26, 300} {
				g := guard(mixed(n, 1))
				first, e := bulks.Cut(g.bytes(), max, zero)
				second, _ := bulks.Cut(g.bytes(), max, zero)
				if e != api.OK {
					continue
				}
				g.expectStays(t, "Cut")
				want := divided(mixed(n, 1), max, zero)
				expectOwnList(t, "Cut", first, want)
				g.expectStays(t, "a packet")
				spoil(g.whole)
				expectOwnList(t, "Cut again", second, want)
			}
		}
	}
}

// TestR1Join: Join changes neither the packets nor their list, and its results share
// no memory with them nor with each other.
func TestR1Join(t *testing.T) {
	for _, max := range []int{0, 1, 8, 9, 1024} {
		eachList(4, []int{0, 1, 7, 8, 9}, func(l [][]byte) {
			guards := make([]*guarded, len(l))
			whole := make([][]byte, len(l)+1)
			for i, b := range l {
				guards[i] = guard(b)
				whole[i] = guards[i].bytes()
			}
			whole[len(l)] = []byte("behind it")
			done, rest, e := bulks.Join(whole[:len(l)], max)
			if !sameLists(whole[:len(l)], l) || string(whole[len(l)]) != "behind it" {
				t.Errorf("Join changes %s", lengths(l))
			}
			if e == api.OK {
				want, left := joinedByDefinition(l, max)
				expectOwnList(t, "Join", done, want)
				expectOwn(t, "the rest", rest, left)
			}
			for _, g := range guards {
				g.expectStays(t, "Join")
			}
		})
	}
}

// TestR1Start: Start neither changes the data of a plan, nor keeps their memory; the
// data of transactions are new memory.
func TestR1Start(t *testing.T) {
	for _, zero := range either {
		for _, n := range []int{0, 1, 8, 9, 16, 20} {
			g := guard(mixed(n, 1))
			x := started(t, bulks.Plan{Endp: 1, Max: 8, Data: g.bytes(), Zero: zero})
			g.expectStays(t, "Start")
			spoil(g.whole)
			for _, want := range divided(mixed(n, 1), 8, zero) {
				for range 3 {
					try, ok := bulks.Next(x)
					if !ok {
						t.Errorf("%d bytes: the transfer is over", n)
					}
					expectOwn(t, "a packet", try.Data, want)
				}
				x = bulks.Answer(x, done())
			}
			ending, _ := bulks.End(x)
			expect(t, "End", strconv.Itoa(ending.Actual), strconv.Itoa(n))
			expectOwn(t, "End", ending.Data, nil)
			spoil(g.whole)
			g.expectStays(t, "Start, later")
		}
	}
}

// TestR1Answer: Answer neither changes the data of an outcome, nor keeps its memory;
// the data of End are new memory.
func TestR1Answer(t *testing.T) {
	for _, n := range []int{0, 1, 8, 9, 16, 20} {
		x := started(t, reading(20, 8))
		for _, b := range divided(mixed(n, 4), 8, true) {
			g := guard(b)
			bulks.Answer(x, transactions.Outcome{Result: transactions.Nak, Data: g.bytes()})
			x = bulks.Answer(x, done(g.bytes()...))
			g.expectStays(t, "Answer")
			spoil(g.whole)
		}
		for range 3 {
			ending, over := bulks.End(x)
			if !over || ending.Errno != api.OK || ending.Actual != n {
				t.Errorf("%d bytes: %s", n, endText(ending, over))
			}
			expectOwn(t, "End", ending.Data, mixed(n, 4))
		}
	}
	x := bulks.Answer(bulks.Answer(started(t, reading(20, 8)), doneWith(8)), stall)
	for range 3 {
		ending, _ := bulks.End(x)
		expectOwn(t, "End with an error", ending.Data, doneWith(8).Data)
	}
}

// TestR1Outcome: an Out does not change, or keep, the data of an outcome either.
func TestR1Outcome(t *testing.T) {
	for _, n := range []int{1, 8, 9} {
		g := guard(mixed(n, 4))
		x := bulks.Answer(started(t, writing(9, 8)), done(g.bytes()...))
		g.expectStays(t, "Answer")
		spoil(g.whole)
		try, _ := bulks.Next(x)
		expectOwn(t, "a packet", try.Data, mixed(9, 1)[8:])
	}
}

// TestR1Branches: transfers behind the same one do not depend on each other.
func TestR1Branches(t *testing.T) {
	first := bulks.Answer(started(t, reading(24, 8)), done(mixed(8, 1)...))
	var branches []bulks.Transfer
	for i := range 5 {
		branches = append(branches, bulks.Answer(first, done(mixed(i, 10*i)...)))
	}
	for i, x := range branches {
		ending, over := bulks.End(x)
		if !over {
			t.Error("a branch is not over")
		}
		expectOwn(t, "a branch", ending.Data, append(mixed(8, 1), mixed(i, 10*i)...))
	}
	expect(t, "the transfer in front of the branches", endText(bulks.End(first)), "not over")
	first = started(t, writing(24, 8))
	second := bulks.Answer(first, done())
	for range 2 {
		try, _ := bulks.Next(first)
		expectOwn(t, "the first packet", try.Data, mixed(24, 1)[:8])
		try, _ = bulks.Next(second)
		expectOwn(t, "the second packet", try.Data, mixed(24, 1)[8:16])
	}
}

// TestR3NilIsEmpty: nil and empty slices are the same argument.
func TestR3NilIsEmpty(t *testing.T) {
	for _, b := range [][]byte{nil, {}, make([]byte, 0, 9)} {
		expectStart(t, bulks.Plan{In: true, Endp: 1, Max: 8, Data: b, Length: 9})
		expectOutcomes(t, bulks.Plan{Endp: 1, Max: 8, Data: b}, []transactions.Outcome{none, {Result: transactions.Done, Data: b}})
		expectOutcomes(t, bulks.Plan{Endp: 1, Max: 8, Data: b, Zero: true}, []transactions.Outcome{none, {Result: transactions.Done, Data: b}})
		expectOutcomes(t, reading(9, 8), []transactions.Outcome{{Result: transactions.Done, Data: b}})
		for _, zero := range either {
			expectCut(t, b, 8, zero)
			expectCut(t, b, 0, zero)
		}
		expectJoin(t, [][]byte{b}, 8)
		expectJoin(t, [][]byte{mixed(8, 1), b, mixed(8, 1)}, 8)
	}
	for _, l := range [][][]byte{nil, {}, make([][]byte, 0, 9)} {
		expectJoin(t, l, 8)
		expectJoin(t, l, 0)
	}
}

// script is a source of numbers that are written down.
type script struct{ left []byte }

// Int63 returns the next number, in the bits that math/rand begins with, and 0
// behind the last one.
func (s *script) Int63() int64 {
	if len(s.left) == 0 {
		return 0
	}
	next := s.left[0]
	s.left = s.left[1:]
	return int64(next) << 32
}

// Seed does nothing.
func (s *script) Seed(int64) {}

// FuzzTransfers: any plans, with any outcomes, and with a device and any faults; and
// what Cut and Join return for any bytes.
func FuzzTransfers(f *testing.F) {
	f.Add(true, uint8(1), 8, false, 0, false, 10, []byte{})
	f.Add(false, uint8(15), 2, true, 4, true, 0, []byte("transfers of many bytes"))
	f.Add(false, uint8(0), 1025, true, 65537, false, -1, mixed(200, 3))
	f.Fuzz(func(t *testing.T, in bool, endp uint8, max int, toggle bool, n int, zero bool, length int, b []byte) {
		n &= 1<<17 - 1 // not more than there is time for
		p := bulks.Plan{In: in, Endp: endp, Max: max, Toggle: toggle, Data: mixed(n, 1), Zero: zero, Length: length}
		expectStart(t, p)
		expectCut(t, b, max, zero)
		p = bulks.Plan{In: in, Endp: 1 + endp%15, Max: 1 + max&1023, Toggle: toggle}
		if in {
			p.Length = length & 65535
		} else {
			p.Data, p.Zero = mixed(n&4095, 1), zero
		}
		s := &script{left: b}
		source := rand.New(s)
		var outcomes []transactions.Outcome
		var list [][]byte
		for len(s.left) > 0 {
			l := append(anyOutcome(p.Max), doneWith(p.Max), doneWith(p.Max), doneWith(p.Max))
			outcomes = append(outcomes, l[source.Intn(len(l))])
			list = append(list, mixed(p.Max-source.Intn(2), 1))
		}
		expectOutcomes(t, p, outcomes)
		expectJoin(t, list, p.Max)
		expectJoin(t, list, p.Max-1)
		faults := make([]transactions.Fault, len(b))
		for i, x := range b {
			faults[i] = transactions.Fault(x / 128)
		}
		l := newLink(t, bulk(in, p.Max), transactions.NewLine(faults...), "a device, "+planText(p)+", "+faultsText(faults))
		l.queue = cutAll(t, p.Max, n&4095, len(b))
		if in {
			p.Length = min(100*len(b), 65536)
		}
		l.performAll(t, slices.Repeat([]bulks.Plan{p}, 2))
	})
}
