package speeds_test

import (
	"math"
	"math/big"
	"testing"

	"plugboard/api"
	"plugboard/speeds"
)

// expectMost compares Most with what is expected.
func expectMost(t *testing.T, s api.Speed, k api.Kind, max, budget, want int, e api.Errno) {
	t.Helper()
	if got, f := speeds.Most(s, k, max, budget); got != want || f != e {
		t.Errorf("Most(%d, %d, %d, %d) = %d, %d; expected %d, %d", s, k, max, budget, got, f, want, e)
	}
}

// TestP4_6Examples: the result that the chapter lists, and some that are known.
func TestP4_6Examples(t *testing.T) {
	expectMost(t, api.Full, api.Bulk, 64, 12000, 1024, api.OK)
	expectMost(t, api.Low, api.Interrupt, 8, 12000, 56, api.OK)             // 7 of 1568 each
	expectMost(t, api.High, api.Isochronous, 1024, 60000, 6144, api.OK)     // 6 of 9651 each
	expectMost(t, api.High, api.Isochronous, 1024, 48000, 4096, api.OK)     // 4 of them
	expectMost(t, api.Full, api.Isochronous, 1023, 12000, 1023, api.OK)     // 1 of 9642
	expectMost(t, api.Low, api.Isochronous, 1024, 12000, 0, api.OK)         // none
	expectMost(t, api.Full, api.Bulk, 64, 719*1000, 64*1000, api.OK)        // the budget may be any
	expectMost(t, api.Full, api.Bulk, 64, 719*1000-1, 64*1000-64, api.OK)   // one bit time is missing
	expectMost(t, api.Full, api.Bulk, 64, 719*1000+718, 64*1000, api.OK)    // one bit time is missing for one more
	expectMost(t, api.Full, api.Bulk, 64, 719*1000+719, 64*1000+64, api.OK) // one more
}

// TestP4_6Budgets: for every speed and kind, and for many sizes, budgets of just
// as many transactions, one less and one more; 0 bit times hold nothing.
func TestP4_6Budgets(t *testing.T) {
	lasts := lastings(t)
	for _, s := range allSpeeds {
		for _, k := range allKinds {
			for max := 1; max <= api.MaxData; max++ {
				cost := costOf(lasts, s, k, max)
				expectMost(t, s, k, max, 0, 0, api.OK)
				for _, n := range []int{1, 2, 3, 17} {
					expectMost(t, s, k, max, n*cost-1, (n-1)*max, api.OK)
					expectMost(t, s, k, max, n*cost, n*max, api.OK)
					expectMost(t, s, k, max, n*cost+1, n*max, api.OK)
				}
			}
		}
	}
}

// TestP4_6AsFit: as many transactions as fit by layer 4 itself, into the budgets
// and shares of every speed.
func TestP4_6AsFit(t *testing.T) {
	for _, s := range allSpeeds {
		for _, k := range allKinds {
			for _, max := range []int{1, 8, 64, 512, 1024} {
				cost, _ := speeds.Cost(s, k, max)
				costs := make([]int, 1000)
				for i := range costs {
					costs[i] = cost
				}
				for _, budget := range []int{speeds.Budget(s), speeds.Share(s), 0} {
					expectMost(t, s, k, max, budget, max*speeds.Fit(budget, costs...), api.OK)
				}
			}
		}
	}
}

// TestP4_6GreatBudgets: budgets up to the greatest integer.
func TestP4_6GreatBudgets(t *testing.T) {
	lasts := lastings(t)
	for _, s := range allSpeeds {
		for _, k := range allKinds {
			for _, max := range []int{1, 2, 63, 64, 1023, 1024} {
				for _, budget := range []int{math.MaxInt32, math.MaxInt32 + 1, math.MaxInt / 2, math.MaxInt - 1, math.MaxInt} {
					want := big.NewInt(int64(budget))
					want.Div(want, big.NewInt(int64(costOf(lasts, s, k, max))))
					want.Mul(want, big.NewInt(int64(max)))
					if !want.IsInt64() {
						t.Fatalf("Most(%d, %d, %d, %d) is %s", s, k, max, budget, want)
					}
					expectMost(t, s, k, max, budget, int(want.Int64()), api.OK)
				}
			}
		}
	}
}

// TestP4_6Invalid: a size from 1 to 1024 and a budget of at least 0 are needed,
// and a speed and a kind that Cost accepts; each alone and together.
func TestP4_6Invalid(t *testing.T) {
	for _, s := range allSpeeds {
		for _, k := range allKinds {
			for _, max := range append(farInts(), 0, -1, 1025, 1026) {
				expectMost(t, s, k, max, 12000, 0, api.ErrArg)
				expectMost(t, s, k, max, -1, 0, api.ErrArg)
			}
			for _, budget := range []int{-1, -2, -12000, math.MinInt32, math.MinInt + 1, math.MinInt} {
				expectMost(t, s, k, 1, budget, 0, api.ErrArg)
				expectMost(t, s, k, 64, budget, 0, api.ErrArg)
				expectMost(t, s, k, 1024, budget, 0, api.ErrArg)
			}
		}
		for _, k := range strangeKinds() {
			expectMost(t, s, k, 64, 12000, 0, api.ErrArg)
			expectMost(t, s, k, 0, -1, 0, api.ErrArg)
		}
	}
	for _, s := range strangeSpeeds() {
		for _, k := range []api.Kind{api.Control, api.Isochronous, api.Bulk, api.Interrupt, 4, 255} {
			expectMost(t, s, k, 64, 12000, 0, api.ErrArg)
			expectMost(t, s, k, 1025, -1, 0, api.ErrArg)
		}
	}
}
