package speeds_test

import (
	"math"
	"slices"
	"testing"

	"plugboard/speeds"
)

// expectFit compares Fit with what is expected.
func expectFit(t *testing.T, want, budget int, costs ...int) {
	t.Helper()
	if got := speeds.Fit(budget, costs...); got != want {
		t.Errorf("Fit(%d, %v) = %d; expected %d", budget, costs, got, want)
	}
}

// TestP4_5Examples: the results that the chapter lists.
func TestP4_5Examples(t *testing.T) {
	expectFit(t, 3, 10, 4, 6, 0, 1)
	expectFit(t, 1, 10, 4, -1, 2)
	expectFit(t, 0, -1, 0)
}

// TestP4_5NoCosts: nothing fits where there is nothing, whatever the budget is.
func TestP4_5NoCosts(t *testing.T) {
	for _, budget := range append(farInts(), 0, 1, 12000) {
		expectFit(t, 0, budget)
		expectFit(t, 0, budget, []int{}...)
	}
}

// TestP4_5Budgets: a budget of just the sum of some costs, one less and one more.
func TestP4_5Budgets(t *testing.T) {
	costs := []int{719, 122, 1568, 1, 9651}
	sum := 0
	for i, cost := range costs {
		sum += cost
		expectFit(t, i, sum-1, costs...)
		expectFit(t, i+1, sum, costs...)
		if i+1 == len(costs) || costs[i+1] > 1 {
			expectFit(t, i+1, sum+1, costs...)
		}
	}
	expectFit(t, 5, math.MaxInt, costs...)
	expectFit(t, 0, 0, costs...)
}

// TestP4_5NothingAndBelow: costs of 0 fit into a budget of 0, and nothing into
// one below 0. A cost below 0 does not fit, and hides those behind it: it makes
// no room for them.
func TestP4_5NothingAndBelow(t *testing.T) {
	expectFit(t, 3, 0, 0, 0, 0)
	expectFit(t, 2, 0, 0, 0, 1, 0)
	expectFit(t, 4, 7, 0, 7, 0, 0, 1)
	for _, budget := range []int{-1, -2, math.MinInt32, math.MinInt + 1, math.MinInt} {
		expectFit(t, 0, budget, 0)
		expectFit(t, 0, budget, 1, 2)
		expectFit(t, 0, budget, budget, 0)
		expectFit(t, 0, budget, math.MinInt)
		expectFit(t, 0, budget, math.MaxInt)
	}
	for _, cost := range []int{-1, -10, math.MinInt32, math.MinInt + 1, math.MinInt} {
		expectFit(t, 0, 10, cost)
		expectFit(t, 0, 10, cost, 0)
		expectFit(t, 0, math.MaxInt, cost, 1, 2)
		expectFit(t, 2, 10, 4, 6, cost, 0)
		expectFit(t, 1, 10, 4, cost, 6)
		expectFit(t, 1, 10, 4, 20, cost, 1)
	}
}

// TestP4_5FirstOnly: a cost that does not fit hides those that would.
func TestP4_5FirstOnly(t *testing.T) {
	expectFit(t, 0, 10, 11, 1)
	expectFit(t, 1, 10, 4, 7, 1, 1)
	expectFit(t, 1, 10, 4, 7, 0)
}

// TestP4_5Overflow: costs whose sum is beyond all integers, also where it would
// come round to a number that fits.
func TestP4_5Overflow(t *testing.T) {
	expectFit(t, 1, math.MaxInt, math.MaxInt, 1)
	expectFit(t, 2, math.MaxInt, math.MaxInt, 0, 1)
	expectFit(t, 1, math.MaxInt, math.MaxInt, math.MaxInt, math.MaxInt)
	expectFit(t, 2, math.MaxInt, math.MaxInt-1, 1, 1)
	expectFit(t, 0, math.MaxInt-1, math.MaxInt, math.MaxInt, 2)
	expectFit(t, 0, 0, math.MaxInt, math.MaxInt, 2, 0)
	expectFit(t, 1, math.MaxInt, 1<<62, 1<<62, 1<<62, 1<<62, 5)
	expectFit(t, 2, math.MaxInt, 1<<62, 1<<62-1, 1<<62, 1<<62)
	expectFit(t, 3, 10, 1, 2, 3, math.MaxInt, math.MaxInt)
}

// smallCosts passes all lists of at most n costs from -1 to 3.
func smallCosts(n int, pass func([]int)) {
	var add func([]int)
	add = func(costs []int) {
		pass(costs)
		if len(costs) == n {
			return
		}
		for cost := -1; cost <= 3; cost++ {
			add(append(slices.Clone(costs), cost))
		}
	}
	add(nil)
}

// TestP4_5ByDefinition: all lists of a few small costs, in small budgets.
func TestP4_5ByDefinition(t *testing.T) {
	smallCosts(4, func(costs []int) {
		for budget := -2; budget <= 13; budget++ {
			expectFit(t, fitting(budget, costs), budget, costs...)
		}
	})
}

// TestP4_7FitGrows: into a greater budget at least as many costs fit.
func TestP4_7FitGrows(t *testing.T) {
	smallCosts(4, func(costs []int) {
		before := 0
		for _, budget := range []int{math.MinInt, -2, -1, 0, 1, 2, 3, 4, 5, 6, 7, 8, 9, 10, 11, 12, 13, 12000, math.MaxInt} {
			n := speeds.Fit(budget, costs...)
			if n < before {
				t.Errorf("Fit(%d, %v) = %d behind %d", budget, costs, n, before)
			}
			before = n
		}
	})
}

// TestR1CostsStay: Fit does not change its costs, or the memory behind them.
func TestR1CostsStay(t *testing.T) {
	for _, budget := range []int{math.MinInt, -1, 0, 4, 10, 12000, math.MaxInt} {
		want := []int{4, 6, 0, -1, 2, math.MaxInt, math.MinInt, 7, 7, 7}
		costs := slices.Clone(want)
		for n := range costs {
			speeds.Fit(budget, costs[:n]...)
		}
		if !slices.Equal(costs, want) {
			t.Errorf("Fit(%d, ..) changes %v to %v", budget, want, costs)
		}
	}
}

// TestR3NilIsEmpty: a nil slice and an empty slice are the same argument.
func TestR3NilIsEmpty(t *testing.T) {
	var none []int
	for _, budget := range []int{-1, 0, 1, 12000} {
		expectFit(t, 0, budget, none...)
		expectFit(t, 0, budget, []int{}...)
	}
}

// FuzzFit: any budget and any costs.
func FuzzFit(f *testing.F) {
	f.Add(10, 4, 6, 0, 1)
	f.Add(10, 4, -1, 2, 0)
	f.Add(-1, 0, 0, 0, 0)
	f.Add(math.MaxInt, 1<<62, 1<<62, 1<<62, 1<<62)
	f.Add(math.MinInt, math.MinInt, math.MaxInt, math.MinInt, 1)
	f.Fuzz(func(t *testing.T, budget, a, b, c, d int) {
		costs := []int{a, b, c, d}
		expectFit(t, fitting(budget, costs), budget, costs...)
		if budget < math.MaxInt && speeds.Fit(budget+1, costs...) < speeds.Fit(budget, costs...) {
			t.Errorf("into %d fit fewer of %v than into %d", budget+1, costs, budget)
		}
	})
}
