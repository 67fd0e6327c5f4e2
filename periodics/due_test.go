package periodics_test

import (
	"fmt"
	"math"
	"math/big"
	"slices"
	"testing"

	"plugboard/api"
	"plugboard/periodics"
)

// periods are numbers that are periods, and others.
func periods() []int {
	l := around(append([]int{0, -256, 512, 768, 1024, 1 << 32, 1<<32 + 8, 1 << 62}, powers...)...)
	for n := range 260 {
		l = append(l, n, -n)
	}
	slices.Sort(l)
	return slices.Compact(l)
}

// phases are phases of a period, and others.
func phases(period int) []int { return around(0, period/2, period) }

// isDue reports by the definition whether a tick is due.
func isDue(period, phase, tick int) bool {
	return slices.Contains(powers, period) && phase >= 0 && phase < period && tick >= 0 && tick%period == phase
}

// TestP10_2Examples: the examples of the document.
func TestP10_2Examples(t *testing.T) {
	for _, c := range []struct {
		period, phase, tick int
		want                bool
	}{{8, 3, 11, true}, {8, 3, 12, false}, {8, 8, 8, false}, {6, 0, 0, false}} {
		if got := periodics.Due(c.period, c.phase, c.tick); got != c.want {
			t.Errorf("Due of %d, %d, %d: %t", c.period, c.phase, c.tick, got)
		}
	}
	for _, c := range []struct{ from, to, want int }{{3, 12, 2}, {4, 11, 0}, {-100, 4, 1}} {
		if got := periodics.Count(8, 3, c.from, c.to); got != c.want {
			t.Errorf("Count of 8, 3, %d, %d: %d; expected %d", c.from, c.to, got, c.want)
		}
	}
	expect(t, "All of 8, 3, 4", fmt.Sprint(first(8, 3, 4, 3)), "[11 19 27]")
}

// TestP10_2Due: periods and phases of every sort, with ticks around both, around 0,
// around MaxTicks, and far from all of them.
func TestP10_2Due(t *testing.T) {
	for _, period := range periods() {
		for _, phase := range phases(period) {
			for _, tick := range around(-256, 0, phase, -phase, period, -period, phase+period, phase-period, 600, 1048576, 1048576+phase, 1<<32, 1<<32+phase) {
				if got := periodics.Due(period, phase, tick); got != isDue(period, phase, tick) {
					t.Errorf("Due of %d, %d, %d: %t", period, phase, tick, got)
				}
			}
		}
	}
}

// TestP10_2AllPhases: all phases and periods, over a few periods.
func TestP10_2AllPhases(t *testing.T) {
	for period := range 260 {
		for phase := -3; phase < period+3; phase++ {
			for tick := -period; tick < 3*period; tick++ {
				if got := periodics.Due(period, phase, tick); got != isDue(period, phase, tick) {
					t.Errorf("Due of %d, %d, %d: %t", period, phase, tick, got)
				}
			}
		}
	}
}

// TestP10_2Short: Count over all ranges of a few ticks, which are empty, reversed, or
// begin below 0.
func TestP10_2Short(t *testing.T) {
	for _, period := range []int{-8, 0, 1, 2, 3, 4, 6, 8, 16, 32, 512} {
		for phase := -2; phase < period+2 && phase < 40; phase++ {
			for from := -20; from < 70; from++ {
				expectSums(t, period, phase, from, 70)
			}
		}
	}
	for _, base := range []int{math.MinInt, 1048500, math.MaxInt - 600} {
		for _, period := range []int{1, 2, 128, 256} {
			for _, phase := range phases(period) {
				expectSums(t, period, phase, base, base+600)
			}
		}
	}
}

// expectSums compares Count from a tick on, up to all of those that are not far, with
// the sum of the ticks that are due.
func expectSums(t *testing.T, period, phase, from, end int) {
	t.Helper()
	sum := 0
	for to := from; to < end; to++ {
		if got := periodics.Count(period, phase, from, to); got != sum {
			t.Errorf("Count of %d, %d, %d, %d: %d; expected %d", period, phase, from, to, got, sum)
		}
		if isDue(period, phase, to) {
			sum++
		}
		if back := from - (to - from); from >= 0 && periodics.Count(period, phase, from, back) != 0 {
			t.Errorf("Count of %d, %d, %d, %d is not 0", period, phase, from, back)
		}
	}
}

// countExactly returns how many ticks are due, in numbers that do not overflow.
func countExactly(period, phase, from, to int) int {
	if !isDue(period, phase, phase) || from >= to {
		return 0
	}
	below := func(tick int) *big.Int {
		n := new(big.Int).Sub(big.NewInt(int64(max(tick, 0))), big.NewInt(int64(phase)))
		n.Add(n, big.NewInt(int64(period-1)))
		return n.Div(n, big.NewInt(int64(period)))
	}
	return int(new(big.Int).Sub(below(to), below(from)).Int64())
}

// TestP10_2Long: Count over ranges of every sort, also from the least int to the
// greatest one. Ranges that follow each other have as many as both together.
func TestP10_2Long(t *testing.T) {
	ends := around(-1<<62, -1<<32, -256, 0, 3, 8, 256, 1048576, 1<<32, 1<<62)
	for _, period := range append(periods(), 257, 1<<20) {
		for _, phase := range phases(period) {
			for _, from := range ends {
				for _, to := range ends {
					got := periodics.Count(period, phase, from, to)
					if want := countExactly(period, phase, from, to); got != want {
						t.Errorf("Count of %d, %d, %d, %d: %d; expected %d", period, phase, from, to, got, want)
					}
				}
				expectFollowing(t, period, phase, from)
			}
		}
	}
	if got := periodics.Count(1, 0, math.MinInt, math.MaxInt); got != math.MaxInt {
		t.Errorf("Count of all ticks: %d", got)
	}
}

// expectFollowing checks that a tick divides a range into two that have as many ticks.
func expectFollowing(t *testing.T, period, phase, tick int) {
	t.Helper()
	for _, from := range []int{math.MinInt, -7, 0, 5} {
		for _, to := range []int{300, 1048577, math.MaxInt} {
			if tick < from || tick > to {
				continue
			}
			sum := periodics.Count(period, phase, from, tick) + periodics.Count(period, phase, tick, to)
			if got := periodics.Count(period, phase, from, to); got != sum {
				t.Errorf("Count of %d, %d, %d, %d: %d; divided at %d: %d", period, phase, from, to, got, tick, sum)
			}
		}
	}
}

// first returns the first ticks that All yields, at most n of them.
func first(period, phase, from, n int) []int {
	var l []int
	for tick := range periodics.All(period, phase, from) {
		if len(l) == n {
			break
		}
		l = append(l, tick)
	}
	return l
}

// ticksFrom returns the ticks that are due by the definition, at most n of them.
func ticksFrom(period, phase, from, n int) []int {
	var l []int
	for tick := max(from, 0); tick < 1048576 && len(l) < n; tick++ {
		if isDue(period, phase, tick) {
			l = append(l, tick)
		}
	}
	return l
}

// TestP10_2First: the first ticks, for periods and phases of every sort.
func TestP10_2First(t *testing.T) {
	for _, period := range powers {
		for phase := range period {
			for _, from := range around(-phase-period, -256, 0, phase, period, phase+period, 1000) {
				if got, want := first(period, phase, from, 3), ticksFrom(period, phase, from, 3); !slices.Equal(got, want) {
					t.Errorf("All of %d, %d, %d: %v; expected %v", period, phase, from, got, want)
				}
			}
		}
	}
	for _, period := range periods() {
		for _, phase := range phases(period) {
			for _, from := range []int{math.MinInt, -1, 0, 1, 1048000} {
				if got := first(period, phase, from, 1); len(got) > 0 != isDue(period, phase, phase) {
					t.Errorf("All of %d, %d, %d: %v", period, phase, from, got)
				}
			}
		}
	}
}

// TestP10_2Last: the last ticks, from around MaxTicks on.
func TestP10_2Last(t *testing.T) {
	for _, period := range powers {
		for phase := range period {
			for _, from := range around(api.MaxTicks, api.MaxTicks-phase, api.MaxTicks-period, api.MaxTicks+period, api.MaxTicks-period+phase, math.MaxInt-256, math.MaxInt-period+phase) {
				if from < 0 {
					continue // these begin at 0
				}
				if got, want := first(period, phase, from, 1000), ticksFrom(period, phase, from, 1000); !slices.Equal(got, want) {
					t.Errorf("All of %d, %d, %d: %v; expected %v", period, phase, from, got, want)
				}
			}
		}
	}
}

// TestP10_2Whole: all ticks, from below 0 on, and from 0 on.
func TestP10_2Whole(t *testing.T) {
	for _, period := range powers {
		for _, from := range []int{math.MinInt, -1, 0, 1} {
			for _, phase := range []int{0, period - 1} {
				l := slices.Collect(periodics.All(period, phase, from))
				if !slices.Equal(l, ticksFrom(period, phase, from, 1048576)) {
					t.Errorf("All of %d, %d, %d yields %d ticks", period, phase, from, len(l))
				}
				if n := periodics.Count(period, phase, from, api.MaxTicks); len(l) != n {
					t.Errorf("All of %d, %d, %d yields %d ticks; Count is %d", period, phase, from, len(l), n)
				}
			}
		}
	}
}

// TestP10_2Again: what All returns is left early, and used again, also within itself.
func TestP10_2Again(t *testing.T) {
	for _, from := range []int{math.MinInt, -5, 0, 4} {
		all := periodics.All(8, 3, from)
		want := ticksFrom(8, 3, from, 4)
		for n := range 4 {
			var l []int
			all(func(tick int) bool {
				l = append(l, tick)
				return len(l) <= n
			})
			if !slices.Equal(l, want[:n+1]) {
				t.Errorf("All of 8, 3, %d, left behind %d: %v; expected %v", from, n, l, want[:n+1])
			}
		}
		var pairs []int
		for outer := range all {
			for inner := range all {
				pairs = append(pairs, outer, inner)
				break
			}
			if len(pairs) == 4 {
				break
			}
		}
		expect(t, "All within All", fmt.Sprint(pairs), fmt.Sprint([]int{want[0], want[0], want[1], want[0]}))
		if l := slices.Collect(all); len(l) != periodics.Count(8, 3, from, api.MaxTicks) {
			t.Errorf("All of 8, 3, %d, used again, yields %d ticks", from, len(l))
		}
	}
}
