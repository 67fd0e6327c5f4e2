package periodics_test

import (
	"math/rand"
	"reflect"
	"slices"
	"testing"

	"plugboard/api"
	"plugboard/periodics"
	"plugboard/transactions"
)

// TestP10_4Example: the transfer of the document that reads 3 packets.
func TestP10_4Example(t *testing.T) {
	x := started(t, reading(3, 8))
	for i, o := range []transactions.Outcome{done(1, 2), none, done()} {
		expect(t, "Next", tryText(periodics.Next(x)), tryText(transactions.Try{Endp: 1, What: api.In, Iso: true, Max: 8}, true))
		l, over := periodics.End(x)
		if l != nil || over {
			t.Errorf("the transfer is over behind %d outcomes", i)
		}
		x = periodics.Answer(x, o)
	}
	expect(t, "Next of a transfer that is over", tryText(periodics.Next(x)), tryText(transactions.Try{}, false))
	expect(t, "End", endText(periodics.End(x)), "[{0 [1 2]} {11 []} {0 []}], true")
}

// anyPlan are plans of every sort, for packets of at most this many bytes.
func anyPlan(max int) []periodics.Plan {
	return []periodics.Plan{
		reading(1, max), reading(2, max), reading(3, max), reading(256, max),
		writing(max, 0), writing(max, max), writing(max, 0, max, max-1), writing(max, slices.Repeat([]int{1}, 256)...),
	}
}

// TestP10_4AllOutcomes: all lists of a few outcomes, for plans of every sort, also
// behind the end of a transfer.
func TestP10_4AllOutcomes(t *testing.T) {
	for i, max := range sizes {
		for _, p := range anyPlan(max) {
			p.Endp = uint8(15 - i)
			if !expectTree(t, newPair(t, p), 2, anyOutcome(max)) {
				return
			}
		}
	}
	for _, p := range []periodics.Plan{reading(1, 2), reading(2, 2), reading(3, 2), reading(4, 2), writing(2, 2), writing(2, 1, 2), writing(2, 0, 0, 2), writing(2, 2, 2, 2, 2)} {
		expectTree(t, newPair(t, p), 3, anyOutcome(2))
		expectTree(t, newPair(t, p), 5, []transactions.Outcome{doneWith(2), doneWith(3), none, babble, unknown[1]})
	}
}

// TestP10_4Places: each outcome in front of each packet of a transfer, and behind the
// last one.
func TestP10_4Places(t *testing.T) {
	for _, n := range []int{1, 2, 5, 255, 256} {
		for _, plan := range []periodics.Plan{reading(n, 8), writing(8, slices.Repeat([]int{3, 8}, n)[:n]...)} {
			p := newPair(t, plan)
			for i := range n + 1 {
				for _, o := range append(anyOutcome(8), unknown...) {
					if i%50 < 6 || i > n-3 {
						p.answer(o).expectSame(t)
					}
				}
				p = p.answer(doneWith(i % 9))
			}
		}
	}
}

// TestP10_4Results: what becomes of a packet, for each number of a result, with and
// without data.
func TestP10_4Results(t *testing.T) {
	for r := range 256 {
		for _, n := range []int{0, 1, 7, 8, 9, 1025} {
			o := transactions.Outcome{Result: transactions.Result(r), Data: mixed(n, r)}
			expectOutcomes(t, reading(1, 8), []transactions.Outcome{o})
			expectOutcomes(t, writing(8, 8), []transactions.Outcome{o})
			expectOutcomes(t, reading(2, 8), []transactions.Outcome{o, doneWith(3), o})
			expectOutcomes(t, writing(8, 8, 7), []transactions.Outcome{o, done(), o})
		}
	}
}

// TestP10_4End: what became of packets, literally.
func TestP10_4End(t *testing.T) {
	two, three := done(1, 2), done(1, 2, 3)
	for _, c := range []struct {
		p    periodics.Plan
		l    []transactions.Outcome
		want string
	}{
		{reading(1, 2), nil, "[], false"},
		{reading(1, 2), []transactions.Outcome{two}, "[{0 [1 2]}], true"},
		{reading(1, 2), []transactions.Outcome{three}, "[{13 []}], true"},
		{reading(1, 2), []transactions.Outcome{babble}, "[{13 []}], true"},
		{reading(5, 2), []transactions.Outcome{nak, stall, none, again}, "[], false"},
		{reading(5, 2), []transactions.Outcome{nak, stall, none, again, two}, "[{11 []} {11 []} {11 []} {11 []} {0 [1 2]}], true"},
		{reading(1, 2), []transactions.Outcome{nak, two}, "[{11 []}], true"},
		{reading(1, 2), unknown, "[], false"},
		{reading(2, 2), []transactions.Outcome{two, {}, {Result: 7}, done(3)}, "[{0 [1 2]} {0 [3]}], true"},
		{writing(2, 1), []transactions.Outcome{done()}, "[{0 []}], true"},
		{writing(2, 1), []transactions.Outcome{three}, "[{0 []}], true"},
		{writing(2, 1, 2), []transactions.Outcome{babble, {Result: transactions.Nak, Data: []byte{1}}}, "[{13 []} {11 []}], true"},
		{writing(2, 1, 2, 0), []transactions.Outcome{stall, none}, "[], false"},
		{writing(2, 1, 2, 0), []transactions.Outcome{stall, none, again}, "[{11 []} {11 []} {11 []}], true"},
	} {
		x := answered(started(t, c.p), c.l...)
		for range 2 {
			expect(t, planText(c.p)+", "+outcomesText(c.l), endText(periodics.End(x)), c.want)
		}
	}
}

// TestP10_4Long: transfers of all numbers of packets, with outcomes at random.
func TestP10_4Long(t *testing.T) {
	source := rand.New(rand.NewSource(101))
	for n := 1; n <= 256; n++ {
		max := sizes[source.Intn(len(sizes))]
		for _, plan := range []periodics.Plan{reading(n, max), writing(max, slices.Repeat([]int{1}, n)...)} {
			p := newPair(t, plan)
			outcomes := anyOutcome(max)
			for range n + 10 {
				p = p.answer(outcomes[source.Intn(len(outcomes))])
				if source.Intn(20) == 0 {
					p.expectSame(t)
				}
			}
			for range n {
				p = p.answer(none)
			}
			if _, over := periodics.End(p.x); !over || !p.expectSame(t) {
				t.Errorf("%s: over %t", planText(plan), over)
			}
		}
	}
}

// TestP10_4Over: a transfer that is over, or zero, does not change, and has no next
// transaction; a zero one has no end.
func TestP10_4Over(t *testing.T) {
	over := []periodics.Transfer{
		answered(started(t, reading(1, 8)), doneWith(8)),
		answered(started(t, reading(2, 8)), none, doneWith(9)),
		answered(started(t, reading(256, 8)), slices.Repeat([]transactions.Outcome{doneWith(1)}, 256)...),
		answered(started(t, writing(8, 8)), done()),
		answered(started(t, writing(8, slices.Repeat([]int{8}, 256)...)), slices.Repeat([]transactions.Outcome{none}, 256)...),
		{},
	}
	for i, x := range over {
		_, isOver := periodics.End(x)
		if isOver != (i < 5) {
			t.Errorf("transfer %d: over %t", i, isOver)
		}
		for _, o := range append(anyOutcome(8), unknown...) {
			y := periodics.Answer(x, o)
			if !reflect.DeepEqual(x, y) {
				t.Errorf("transfer %d changes behind %s", i, outcomesText([]transactions.Outcome{o}))
			}
			expect(t, "Next", tryText(periodics.Next(y)), tryText(transactions.Try{}, false))
			expect(t, "End", endText(periodics.End(y)), endText(periodics.End(x)))
		}
	}
	expect(t, "End of a zero transfer", endText(periodics.End(periodics.Transfer{})), endText(nil, false))
	if !isZero(answered(periodics.Transfer{}, anyOutcome(8)...)) {
		t.Error("a zero transfer is not zero behind outcomes")
	}
}

// TestP10_4Performed: each transaction has no error of layer 6.
func TestP10_4Performed(t *testing.T) {
	for _, max := range sizes {
		for _, p := range anyPlan(max) {
			x := started(t, p)
			for try, ok := periodics.Next(x); ok; try, ok = periodics.Next(x) {
				try.Addr = 127
				if e := transactions.Check(try); e != api.OK {
					t.Fatalf("%s: the transaction %s: error %d", planText(p), tryText(try, ok), e)
				}
				x = periodics.Answer(x, none)
			}
		}
	}
}
