package bulks_test

import (
	"testing"

	"plugboard/api"
	"plugboard/bulks"
	"plugboard/transactions"
)

// ended is how a transfer ends behind outcomes.
type ended struct {
	place
	e      api.Errno
	n      int // the number of bytes that have been received
	actual int
	toggle bool
	nones  int
}

// endings are transfers that are over. The bytes that they have received are in
// packets that doneWith returns.
func endings() []ended {
	eight, three, two, nothing := doneWith(8), doneWith(3), doneWith(2), done()
	l := func(l ...transactions.Outcome) []transactions.Outcome { return l }
	return []ended{
		{place{reading(10, 8), l(eight, none, two)}, api.OK, 10, 10, false, 0},
		{place{reading(10, 8), l(three)}, api.OK, 3, 3, true, 0},
		{place{reading(10, 8), l(nothing)}, api.OK, 0, 0, true, 0},
		{place{reading(10, 8), l(eight, nothing)}, api.OK, 8, 8, false, 0},
		{place{reading(0, 8), nil}, api.OK, 0, 0, false, 0},
		{place{toggled(reading(0, 8)), nil}, api.OK, 0, 0, true, 0},
		{place{reading(10, 8), l(eight, three)}, api.ErrBabble, 8, 8, true, 0},
		{place{reading(10, 8), l(doneWith(9))}, api.ErrBabble, 0, 0, false, 0},
		{place{reading(9, 8), l(doneWith(9))}, api.ErrBabble, 0, 0, false, 0},
		{place{reading(1, 8), l(two)}, api.ErrBabble, 0, 0, false, 0},
		{place{reading(10, 8), l(none, none, doneWith(9))}, api.ErrBabble, 0, 0, false, 0},
		{place{reading(10, 8), l(eight, babble)}, api.ErrBabble, 8, 8, true, 0},
		{place{reading(10, 8), l(eight, stall)}, api.ErrStall, 8, 8, true, 0},
		{place{toggled(reading(10, 8)), l(eight, none, none, stall)}, api.ErrStall, 8, 8, false, 0},
		{place{reading(10, 8), l(eight, none, none, none)}, api.ErrTime, 8, 8, true, 3},
		{place{writing(4, 2), l(nothing, nothing)}, api.OK, 0, 4, false, 0},
		{place{writing(4, 2), l(nothing, stall)}, api.ErrStall, 0, 2, true, 0},
		{place{writing(4, 2), l(nothing, none, none, babble)}, api.ErrBabble, 0, 2, true, 0},
		{place{writing(5, 2), l(nothing, nothing, none, none, none)}, api.ErrTime, 0, 4, false, 3},
		{place{terminated(writing(4, 2)), l(nothing, nothing, nothing)}, api.OK, 0, 4, true, 0},
		{place{terminated(writing(4, 2)), l(nothing, nothing, stall)}, api.ErrStall, 0, 4, false, 0},
		{place{toggled(writing(0, 2)), l(nothing)}, api.OK, 0, 0, false, 0},
		{place{writing(0, 2), l(nak, again, none, nothing)}, api.OK, 0, 0, true, 0},
		{place{writing(4, 2), l(three, eight)}, api.OK, 0, 4, false, 0},
	}
}

// TestP9_3End: how transfers end: the error, what was received, and how many bytes
// were moved. They are not over in front of their last outcome.
func TestP9_3End(t *testing.T) {
	for _, c := range endings() {
		name := planText(c.p) + ", behind " + outcomesText(c.l)
		x := started(t, c.p)
		var want []byte
		for _, o := range c.l {
			expect(t, name+", too early", endText(bulks.End(x)), "not over")
			if o.Result == transactions.Done && c.p.In && len(want) < c.n {
				want = append(want, o.Data...)
			}
			x = bulks.Answer(x, o)
		}
		for range 2 {
			ending, over := bulks.End(x)
			if !over || ending.Errno != c.e || ending.Actual != c.actual || len(want) != c.n {
				t.Errorf("%s: %s; expected error %d, actual %d", name, endText(ending, over), c.e, c.actual)
			}
			expectBytes(t, name, ending.Data, want)
		}
	}
	expect(t, "a zero transfer", endText(bulks.End(bulks.Transfer{})), "not over")
}

// TestP9_4Endings: the toggle and the errors of transfers that are over.
func TestP9_4Endings(t *testing.T) {
	for _, c := range endings() {
		p := expectOutcomes(t, c.p, c.l)
		if bulks.Toggle(p.x) != c.toggle || bulks.Errors(p.x) != c.nones {
			t.Errorf("%s, behind %s: toggle %t, %d errors; expected %t, %d", planText(c.p), outcomesText(c.l), bulks.Toggle(p.x), bulks.Errors(p.x), c.toggle, c.nones)
		}
	}
	expectZero(t, "a zero transfer", bulks.Transfer{})
}

// TestP9_4Toggle: the toggle is that of the next transaction, and alternates with
// each packet, beginning with that of the plan.
func TestP9_4Toggle(t *testing.T) {
	for _, plan := range []bulks.Plan{reading(80, 8), toggled(reading(80, 8)), writing(80, 8), toggled(writing(80, 8))} {
		x := started(t, plan)
		for i := range 10 {
			for _, o := range []transactions.Outcome{nak, none, again, none, none, unknown[0]} {
				x = bulks.Answer(x, o)
				want := plan.Toggle != (i%2 == 1)
				if try, ok := bulks.Next(x); !ok || try.Toggle != want || bulks.Toggle(x) != want {
					t.Errorf("%s: packet %d has the toggle %t, and Toggle is %t", planText(plan), i, try.Toggle, bulks.Toggle(x))
				}
			}
			x = bulks.Answer(x, doneWith(8))
		}
		if _, over := bulks.End(x); !over || bulks.Toggle(x) != plan.Toggle {
			t.Errorf("%s: over %t, toggle %t", planText(plan), over, bulks.Toggle(x))
		}
	}
}

// TestP9_4Errors: the errors are counted up to the next other result.
func TestP9_4Errors(t *testing.T) {
	for name, at := range places() {
		x := started(t, at.p)
		for _, o := range at.l {
			x = bulks.Answer(x, o)
		}
		for n := range 3 {
			if bulks.Errors(x) != n {
				t.Errorf("%s: %d errors; expected %d", name, bulks.Errors(x), n)
			}
			for _, o := range []transactions.Outcome{nak, again, stall, babble, done(), doneWith(1), doneWith(9), doneWith(100)} {
				if y := bulks.Answer(x, o); bulks.Errors(y) != 0 {
					t.Errorf("%s: %d errors behind %s", name, bulks.Errors(y), outcomesText([]transactions.Outcome{o}))
				}
			}
			for _, o := range unknown {
				if y := bulks.Answer(x, o); bulks.Errors(y) != n {
					t.Errorf("%s: %d errors behind an unknown result; expected %d", name, bulks.Errors(y), n)
				}
			}
			x = bulks.Answer(x, none)
		}
		if ending, over := bulks.End(x); !over || ending.Errno != api.ErrTime || bulks.Errors(x) != 3 {
			t.Errorf("%s: %s, %d errors", name, endText(ending, over), bulks.Errors(x))
		}
	}
}
