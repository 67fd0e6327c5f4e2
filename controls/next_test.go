package controls_test

import (
	"math/rand"
	"slices"
	"testing"

	"plugboard/api"
	"plugboard/controls"
	"plugboard/transactions"
)

// The outcomes without data.
var (
	nak    = ended(transactions.Nak)
	stall  = ended(transactions.Stall)
	none   = ended(transactions.None)
	babble = ended(transactions.Babble)
	again  = ended(transactions.Again)
)

// unknown are outcomes whose results are none of those of layer 6.
var unknown = []transactions.Outcome{{}, {Result: 7}, {Result: 255}, {Result: 0, Data: []byte{1}}, {Result: 8, Data: mixed(20, 1)}}

// anyOutcome are outcomes of every sort, for packets of max bytes.
func anyOutcome(max int) []transactions.Outcome {
	l := []transactions.Outcome{nak, stall, none, babble, again, unknown[1]}
	for _, n := range []int{0, 1, max - 1, max, max + 1} {
		l = append(l, done(mixed(n, 5)...))
	}
	return l
}

// TestP8_4AllOutcomes: all lists of a few outcomes, for requests of each sort.
func TestP8_4AllOutcomes(t *testing.T) {
	for _, r := range []api.Request{asking(inward, 0), asking(outward, 0), asking(inward, 1), asking(outward, 1), asking(inward, 8), asking(outward, 8), asking(inward, 9), asking(outward, 9), asking(inward, 16), asking(outward, 16), asking(inward, 17), asking(outward, 17)} {
		if !expectTree(t, newPair(t, r, 8), 5, nil, anyOutcome(8)) {
			return
		}
	}
	for _, max := range sizes {
		for _, r := range []api.Request{asking(inward, 2*max+1), asking(outward, 2*max), asking(inward, 2*max)} {
			if !expectTree(t, newPair(t, r, max), 4, nil, anyOutcome(max)) {
				return
			}
		}
	}
}

// TestP8_4Long: all lists of good outcomes, and of some others, for longer requests.
func TestP8_4Long(t *testing.T) {
	for _, n := range []int{23, 24, 25, 31, 32} {
		expectTree(t, newPair(t, asking(inward, n), 8), 7, nil, []transactions.Outcome{done(mixed(8, 1)...), done(mixed(7, 1)...), none, again})
		expectTree(t, newPair(t, asking(outward, n), 8), 7, nil, []transactions.Outcome{done(), none, nak, again})
	}
}

// stages lead a transfer with packets of 8 bytes to each stage, for requests of each
// sort.
func stages() map[string]struct {
	r api.Request
	l []transactions.Outcome
} {
	eight := done(mixed(8, 1)...)
	return map[string]struct {
		r api.Request
		l []transactions.Outcome
	}{
		"setup, reading":         {asking(inward, 17), nil},
		"setup, writing":         {asking(outward, 17), nil},
		"setup, without data":    {asking(outward, 0), nil},
		"setup, no data to read": {asking(inward, 0), nil},
		"data, reading":          {asking(inward, 17), []transactions.Outcome{done()}},
		"more data, reading":     {asking(inward, 17), []transactions.Outcome{done(), eight}},
		"last data, reading":     {asking(inward, 17), []transactions.Outcome{done(), eight, eight}},
		"data, writing":          {asking(outward, 17), []transactions.Outcome{done()}},
		"more data, writing":     {asking(outward, 17), []transactions.Outcome{done(), done()}},
		"last data, writing":     {asking(outward, 17), []transactions.Outcome{done(), done(), done()}},
		"status, reading":        {asking(inward, 17), []transactions.Outcome{done(), eight, done()}},
		"status, all read":       {asking(inward, 8), []transactions.Outcome{done(), eight}},
		"status, writing":        {asking(outward, 8), []transactions.Outcome{done(), done()}},
		"status, without data":   {asking(outward, 0), []transactions.Outcome{done()}},
		"status, nothing read":   {asking(inward, 0), []transactions.Outcome{done()}},
	}
}

// TestP8_4Stages: each outcome in each stage, also behind others.
func TestP8_4Stages(t *testing.T) {
	for name, stage := range stages() {
		p := newPair(t, stage.r, 8)
		for _, o := range stage.l {
			p = p.answer(o)
		}
		if _, e := controls.End(p.x); e != api.ErrState {
			t.Errorf("%s: the transfer is over", name)
		}
		outcomes := append(anyOutcome(8), unknown...)
		for n := range 20 {
			outcomes = append(outcomes, done(mixed(n, 9)...), transactions.Outcome{Result: transactions.Nak, Data: mixed(n, 9)}, transactions.Outcome{Result: transactions.Again, Data: mixed(n, 9)})
		}
		expectTree(t, p, 2, stage.l, outcomes)
	}
}

// TestP8_4None: three of None in succession end a transfer in each stage; one and
// two do not, nor do more with other results in between, but unknown ones do not
// count as such.
func TestP8_4None(t *testing.T) {
	for name, stage := range stages() {
		p := newPair(t, stage.r, 8)
		before := controls.Transfer{}
		for _, o := range stage.l {
			// Those of an earlier stage do not count: a stage ends with Done.
			p = p.answer(none).answer(none).answer(o)
		}
		before = p.x
		endings := func(l ...transactions.Outcome) api.Errno {
			x := before
			for _, o := range l {
				x = controls.Answer(x, o)
			}
			_, e := controls.End(x)
			return e
		}
		expectError(t, name+": one", endings(none), api.ErrState)
		expectError(t, name+": two", endings(none, none), api.ErrState)
		expectError(t, name+": three", endings(none, none, none), api.ErrTime)
		for _, other := range []transactions.Outcome{nak, again} {
			expectError(t, name+": two, another, and two", endings(none, none, other, none, none), api.ErrState)
			expectError(t, name+": one, another, and two", endings(none, other, none, none), api.ErrState)
			expectError(t, name+": two, another, and three", endings(none, none, other, none, none, none), api.ErrTime)
		}
		for _, other := range unknown {
			expectError(t, name+": two, an unknown one, and one", endings(none, none, other, none), api.ErrTime)
			expectError(t, name+": one, unknown ones, and two", endings(other, none, other, other, none, none), api.ErrTime)
			expectError(t, name+": two, and an unknown one", endings(none, none, other), api.ErrState)
		}
	}
}

// TestP8_4Over: a transfer that is over, or zero, does not change.
func TestP8_4Over(t *testing.T) {
	for _, o := range append(anyOutcome(8), unknown...) {
		x := controls.Answer(controls.Transfer{}, o)
		try, ok := controls.Next(x)
		expect(t, "Next of a zero transfer", tryText(try, ok), "none")
		_, e := controls.End(x)
		expectError(t, "End of a zero transfer", e, api.ErrNil)
		for _, c := range []struct {
			r    api.Request
			l    []transactions.Outcome
			data string
			e    api.Errno
		}{
			{asking(outward, 0), []transactions.Outcome{done(), done()}, "", api.OK},
			{asking(inward, 9), []transactions.Outcome{done(), done(1, 2), done()}, "\x01\x02", api.OK},
			{asking(inward, 9), []transactions.Outcome{done(), done(1, 2), stall}, "", api.ErrStall},
			{asking(inward, 9), []transactions.Outcome{done(), done(mixed(8, 1)...), babble}, "", api.ErrBabble},
			{asking(inward, 9), []transactions.Outcome{done(), done(mixed(8, 1)...), none, none, none}, "", api.ErrTime},
		} {
			p := expectOutcomes(t, c.r, 8, c.l)
			x := controls.Answer(controls.Answer(controls.Answer(p.x, o), o), o)
			b, e := controls.End(x)
			if _, ok := controls.Next(x); ok || string(b) != c.data || e != c.e {
				t.Errorf("%s, and %s: %q, error %d", p.name(c.l), outcomeText(o), b, e)
			}
		}
	}
}

// TestP8_4Lengths: requests of all lengths, with good outcomes.
func TestP8_4Lengths(t *testing.T) {
	for _, max := range sizes {
		for _, length := range append([]int{65535, 65528, 65472, 4096, 1000}, numbers(3*max+2)...) {
			reading := []transactions.Outcome{done()}
			for from := 0; from < length; from += max {
				reading = append(reading, done(mixed(min(max, length-from), from)...))
			}
			writing := slices.Repeat([]transactions.Outcome{done()}, len(reading))
			for r, l := range map[api.Request][]transactions.Outcome{asking(inward, length): reading, asking(outward, length): writing} {
				p := expectOutcomes(t, r, max, l)
				_, e := controls.End(p.x)
				expectError(t, requestText(r)+", without the last outcome", e, api.ErrState)
				p = p.answer(done())
				if b, e := controls.End(p.x); e != api.OK || r.Type == inward && len(b) != length || !p.expectSame(t, l) {
					t.Errorf("%s: %d bytes, error %d", requestText(r), len(b), e)
				}
			}
		}
	}
}

// numbers returns the numbers from 1 to n.
func numbers(n int) []int {
	l := make([]int, n)
	for i := range l {
		l[i] = i + 1
	}
	return l
}

// TestP8_4Random: long lists of any outcomes.
func TestP8_4Random(t *testing.T) {
	source := rand.New(rand.NewSource(84))
	for range 20000 {
		max := sizes[source.Intn(4)]
		good := []transactions.Outcome{done(mixed(max, 1)...), done(mixed(max, 2)...), done(mixed(max, 3)...), none, nak, again, unknown[0]}
		var l []transactions.Outcome
		for range 40 {
			if source.Intn(30) == 0 {
				others := append(anyOutcome(max), unknown...)
				l = append(l, others[source.Intn(len(others))])
			} else {
				l = append(l, good[source.Intn(len(good))])
			}
		}
		expectOutcomes(t, asking([]uint8{inward, outward}[source.Intn(2)], source.Intn(12*max)), max, l)
		if t.Failed() {
			return
		}
	}
}

// TestP8_4Toggles: the packets of the data stage alternate, beginning with Data1.
func TestP8_4Toggles(t *testing.T) {
	for _, typ := range []uint8{inward, outward} {
		r := asking(typ, 80)
		x := controls.Answer(started(t, r, outOf(r), 8), done())
		for i := range 10 {
			for _, o := range []transactions.Outcome{nak, none, again, unknown[0]} {
				x = controls.Answer(x, o)
				if try, ok := controls.Next(x); !ok || try.Toggle != (i%2 == 0) {
					t.Errorf("type %d: packet %d has the toggle %t", typ, i, try.Toggle)
				}
			}
			x = controls.Answer(x, done(mixed(8, i)...))
		}
		if try, ok := controls.Next(x); !ok || !try.Toggle || len(try.Data) > 0 || try.Max != 0 {
			t.Errorf("type %d: the status stage is %s", typ, tryText(try, ok))
		}
	}
}

// TestP8_4Valid: no transaction has an error.
func TestP8_4Valid(t *testing.T) {
	for _, r := range requests() {
		for _, max := range sizes {
			x := started(t, r, outOf(r), max)
			for i := 0; ; i++ {
				try, ok := controls.Next(x)
				if !ok {
					break
				}
				if e := transactions.Check(try); e != api.OK || i > 70000/max {
					t.Fatalf("%s: transaction %d is %s, error %d", requestText(r), i, tryText(try, ok), e)
				}
				b := mixed(min(try.Max, int(r.Length)), i)
				x = controls.Answer(x, done(b...))
				if i > 3 && try.What == api.In {
					x = controls.Answer(x, done())
				}
			}
		}
	}
}
