package bulks_test

import (
	"math/rand"
	"slices"
	"strconv"
	"testing"

	"plugboard/api"
	"plugboard/bulks"
	"plugboard/transactions"
)

// toggled returns a plan with Toggle set.
func toggled(p bulks.Plan) bulks.Plan {
	p.Toggle = true
	return p
}

// anyPlan are plans of every sort, for packets of at most this many bytes.
func anyPlan(max int) []bulks.Plan {
	var l []bulks.Plan
	for _, n := range around(0, max, 2*max) {
		l = append(l, reading(n, max), writing(n, max), terminated(writing(n, max)))
	}
	return l
}

// TestP9_2AllOutcomes: all lists of a few outcomes, for plans of every sort.
func TestP9_2AllOutcomes(t *testing.T) {
	for _, max := range []int{1, 2, 8} {
		for _, p := range anyPlan(max) {
			if !expectTree(t, newPair(t, p), 4, nil, anyOutcome(max)) {
				return
			}
			if !expectTree(t, newPair(t, toggled(p)), 3, nil, anyOutcome(max)) {
				return
			}
		}
	}
	for _, max := range sizes {
		for _, p := range anyPlan(max) {
			p.Endp = 15
			if !expectTree(t, newPair(t, p), 2, nil, anyOutcome(max)) {
				return
			}
		}
	}
}

// TestP9_2Long: all lists of good outcomes, and of some others, for longer plans.
func TestP9_2Long(t *testing.T) {
	for _, n := range []int{23, 24, 25, 31, 32} {
		expectTree(t, newPair(t, reading(n, 8)), 7, nil, []transactions.Outcome{doneWith(8), doneWith(7), none, again})
		expectTree(t, newPair(t, writing(n, 8)), 7, nil, []transactions.Outcome{done(), none, nak, again})
		expectTree(t, newPair(t, terminated(writing(n, 8))), 7, nil, []transactions.Outcome{done(), none, nak, unknown[1]})
	}
}

// place is a plan, and outcomes that lead a transfer somewhere.
type place struct {
	p bulks.Plan
	l []transactions.Outcome
}

// places are what a transfer with packets of 8 bytes may be at.
func places() map[string]place {
	eight := doneWith(8)
	return map[string]place{
		"nothing read":          {reading(17, 8), nil},
		"a packet read":         {reading(17, 8), []transactions.Outcome{eight}},
		"a byte left":           {reading(17, 8), []transactions.Outcome{eight, eight}},
		"a packet left":         {reading(16, 8), []transactions.Outcome{eight}},
		"nothing written":       {writing(17, 8), nil},
		"a packet written":      {writing(17, 8), []transactions.Outcome{done()}},
		"a byte to write":       {writing(17, 8), []transactions.Outcome{done(), done()}},
		"an empty packet":       {writing(0, 8), nil},
		"an empty packet left":  {terminated(writing(16, 8)), []transactions.Outcome{done(), done()}},
		"a last packet, zero":   {terminated(writing(17, 8)), []transactions.Outcome{done(), done()}},
		"a last packet is full": {writing(16, 8), []transactions.Outcome{done()}},
	}
}

// TestP9_2Places: each outcome in each state of a transfer, also behind others, and
// behind one and two of None.
func TestP9_2Places(t *testing.T) {
	outcomes := append(anyOutcome(8), unknown...)
	for n := range 20 {
		for _, r := range []transactions.Result{transactions.Done, transactions.Nak, transactions.Again, transactions.None} {
			outcomes = append(outcomes, transactions.Outcome{Result: r, Data: mixed(n, 9)})
		}
	}
	for name, at := range places() {
		for _, plan := range []bulks.Plan{at.p, toggled(at.p)} {
			p := expectOutcomes(t, plan, at.l)
			if _, over := bulks.End(p.x); over {
				t.Errorf("%s: the transfer is over", name)
			}
			expectTree(t, p, 2, at.l, outcomes)
			expectTree(t, p.answer(none), 1, append(slices.Clone(at.l), none), outcomes)
			expectTree(t, p.answer(none).answer(none), 1, append(slices.Clone(at.l), none, none), outcomes)
		}
	}
}

// TestP9_2None: three of None in succession end a transfer in each state; one and
// two do not, nor do more with other results in between, but unknown ones do not
// count as such.
func TestP9_2None(t *testing.T) {
	for name, at := range places() {
		// Those in front of a packet do not count: it ends the succession.
		before := newPair(t, at.p)
		for _, o := range at.l {
			before = before.answer(none).answer(none).answer(o)
		}
		expectEnding := func(what string, want api.Errno, l ...transactions.Outcome) {
			t.Helper()
			p := before
			for _, o := range l {
				p = p.answer(o)
			}
			ending, over := bulks.End(p.x)
			if ending.Errno != want || over != (want != api.OK) || !p.expectSame(t, l) {
				t.Errorf("%s: %s: %s", name, what, endText(ending, over))
			}
		}
		expectEnding("one", api.OK, none)
		expectEnding("two", api.OK, none, none)
		expectEnding("three", api.ErrTime, none, none, none)
		for _, other := range []transactions.Outcome{nak, again} {
			expectEnding("two, another, and two", api.OK, none, none, other, none, none)
			expectEnding("one, another, and two", api.OK, none, other, none, none)
			expectEnding("two, another, and three", api.ErrTime, none, none, other, none, none, none)
		}
		for _, other := range unknown {
			expectEnding("two, an unknown one, and one", api.ErrTime, none, none, other, none)
			expectEnding("one, unknown ones, and two", api.ErrTime, other, none, other, other, none, none)
			expectEnding("two, and an unknown one", api.OK, none, none, other)
		}
	}
}

// TestP9_2Over: a transfer that is over, or zero, does not change.
func TestP9_2Over(t *testing.T) {
	for _, o := range append(anyOutcome(8), unknown...) {
		x := bulks.Transfer{}
		for range 4 {
			x = bulks.Answer(x, o)
			expectZero(t, "a zero transfer", x)
		}
		for _, at := range endings() {
			p := expectOutcomes(t, at.p, at.l)
			if try, ok := bulks.Next(p.x); ok {
				t.Errorf("behind %s: %s", outcomesText(at.l), tryText(try, ok))
			}
			for range 4 {
				p = p.answer(o)
				p.expectSame(t, append(slices.Clone(at.l), o))
			}
		}
	}
}

// TestP9_2Lengths: plans of all lengths, with good outcomes, and data that an Out
// does not have.
func TestP9_2Lengths(t *testing.T) {
	for _, max := range sizes {
		for _, n := range around(0, max, 2*max, 9*max, 100, 4096) {
			many := len(divided(make([]byte, n), max, true))
			inward := make([]transactions.Outcome, 0, many)
			for from := 0; from < n; from += max {
				inward = append(inward, done(mixed(min(max, n-from), from)...))
			}
			expectOver(t, reading(n, max), inward)
			outward := slices.Repeat([]transactions.Outcome{done(1, 2, 3)}, many)
			expectOver(t, terminated(writing(n, max)), outward)
			if n > 0 && n%max == 0 {
				outward = outward[1:]
			}
			expectOver(t, writing(n, max), outward)
		}
	}
}

// expectOver checks that a transfer is over with OK behind these outcomes, and not
// in front of the last one.
func expectOver(t *testing.T, plan bulks.Plan, l []transactions.Outcome) {
	t.Helper()
	name := planText(plan) + ", behind " + outcomesText(l)
	x := started(t, plan)
	for i, o := range l {
		if ending, over := bulks.End(x); over {
			t.Errorf("%s: over behind %d: %s", name, i, endText(ending, over))
		}
		x = bulks.Answer(x, o)
	}
	ending, over := bulks.End(x)
	if n := len(plan.Data) + plan.Length; !over || ending.Errno != api.OK || ending.Actual != n || len(ending.Data) != plan.Length {
		t.Errorf("%s: %s", name, endText(ending, over))
	}
	if bulks.Toggle(x) != (len(l)%2 == 1) {
		t.Errorf("%s: toggle %t", name, bulks.Toggle(x))
	}
}

// TestP9_2Greatest: transfers of the greatest length, with packets of few and of
// many bytes.
func TestP9_2Greatest(t *testing.T) {
	memory := mixed(65536, 1)
	for _, max := range []int{1, 3, 64, 1024} {
		x, y := started(t, reading(65536, max)), started(t, terminated(writing(65536, max)))
		var got []byte
		for from := 0; from < len(memory); from += max {
			try, _ := bulks.Next(y)
			got = append(got, try.Data...)
			x, y = bulks.Answer(x, done(memory[from:min(from+max, len(memory))]...)), bulks.Answer(y, done())
		}
		ending, over := bulks.End(x)
		if !over || ending.Errno != api.OK || ending.Actual != 65536 {
			t.Errorf("max %d, reading: %s", max, endText(ending, over))
		}
		expectBytes(t, "what was read", ending.Data, memory)
		expectBytes(t, "what was written", got, memory)
		// 65536 is no multiple of 3, so that the last packet is not full.
		if try, ok := bulks.Next(y); ok != (max != 3) || len(try.Data) > 0 {
			t.Errorf("max %d, behind the last byte: %s", max, tryText(try, ok))
		}
		ending, over = bulks.End(bulks.Answer(y, done()))
		expect(t, "max "+strconv.Itoa(max)+", writing", endText(ending, over), "error 0, actual 65536, 0 bytes ")
	}
}

// TestP9_2Random: long lists of any outcomes.
func TestP9_2Random(t *testing.T) {
	source := rand.New(rand.NewSource(92))
	for range 20000 {
		max := 1 + source.Intn(20)
		good := []transactions.Outcome{doneWith(max), doneWith(max), done(mixed(max, 3)...), none, nak, again, unknown[0]}
		var l []transactions.Outcome
		for range 40 {
			if source.Intn(30) == 0 {
				others := append(anyOutcome(max), unknown...)
				l = append(l, others[source.Intn(len(others))])
			} else {
				l = append(l, good[source.Intn(len(good))])
			}
		}
		plans := anyPlan(max * source.Intn(8))
		p := plans[source.Intn(len(plans))]
		p.Max, p.Endp, p.Toggle = max, uint8(1+source.Intn(15)), source.Intn(2) == 0
		expectOutcomes(t, p, l)
		if t.Failed() {
			return
		}
	}
}

// TestP9_2Valid: no transaction has an error, and its fields are those of the plan.
func TestP9_2Valid(t *testing.T) {
	for _, max := range sizes {
		for endp := range uint8(15) {
			for _, p := range anyPlan(max) {
				p.Endp = endp + 1
				x := started(t, p)
				for i := 0; ; i++ {
					try, ok := bulks.Next(x)
					if !ok {
						break
					}
					if e := transactions.Check(try); e != api.OK || try.Addr != 0 || try.Endp != p.Endp || (try.What == api.In) != p.In || i > 9 {
						t.Fatalf("%s: transaction %d is %s, error %d", planText(p), i, tryText(try, ok), e)
					}
					x = bulks.Answer(x, doneWith(try.Max))
				}
			}
		}
	}
}
