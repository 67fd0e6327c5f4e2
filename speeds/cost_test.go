package speeds_test

import (
	"testing"

	"plugboard/api"
	"plugboard/speeds"
)

// expectCost compares Cost with what is expected.
func expectCost(t *testing.T, s api.Speed, k api.Kind, n, want int, e api.Errno) {
	t.Helper()
	if got, f := speeds.Cost(s, k, n); got != want || f != e {
		t.Errorf("Cost(%d, %d, %d) = %d, %d; expected %d, %d", s, k, n, got, f, want, e)
	}
}

// TestGap: the number that other layers rely on.
func TestGap(t *testing.T) {
	if speeds.Gap != 8 {
		t.Errorf("Gap = %d", speeds.Gap)
	}
}

// TestP4_2Examples: the results that the chapter lists.
func TestP4_2Examples(t *testing.T) {
	expectCost(t, api.Full, api.Bulk, 0, 122, api.OK)
	expectCost(t, api.Full, api.Bulk, 64, 719, api.OK)
	expectCost(t, api.Low, api.Interrupt, 8, 1568, api.OK)
	expectCost(t, api.High, api.Isochronous, 1024, 9651, api.OK)
	expectCost(t, api.High, api.Bulk, 1025, 0, api.ErrArg)
}

// costOf returns the bit times of a transaction, by definition.
func costOf(lasts []int, s api.Speed, k api.Kind, n int) int {
	cost := lasts[3] + lasts[n+3]
	if k != api.Isochronous {
		cost += lasts[1]
	}
	if s == api.Low {
		cost *= 8
	}
	return cost
}

// TestP4_2ByDefinition: every speed, every kind, and every number of bytes.
func TestP4_2ByDefinition(t *testing.T) {
	lasts := lastings(t)
	for _, s := range allSpeeds {
		for _, k := range allKinds {
			for n := range api.MaxData + 1 {
				expectCost(t, s, k, n, costOf(lasts, s, k, n), api.OK)
			}
		}
	}
}

// TestP4_2Speeds: High costs as many bit times as Full, each on its own bus, and
// Low eight times as many.
func TestP4_2Speeds(t *testing.T) {
	for _, k := range allKinds {
		for _, n := range []int{0, 1, 8, 63, 64, 512, 1023, 1024} {
			low, _ := speeds.Cost(api.Low, k, n)
			full, _ := speeds.Cost(api.Full, k, n)
			high, _ := speeds.Cost(api.High, k, n)
			if full == 0 || low != 8*full || high != full {
				t.Errorf("Cost of kind %d with %d bytes: %d, %d, %d", k, n, low, full, high)
			}
		}
	}
}

// TestP4_2Invalid: numbers that are no speeds, no kinds and no numbers of bytes,
// each alone and together.
func TestP4_2Invalid(t *testing.T) {
	noBytes := append(farInts(), -1, 1025, 1026, 1027)
	for _, s := range strangeSpeeds() {
		for _, k := range allKinds {
			expectCost(t, s, k, 64, 0, api.ErrArg)
		}
		expectCost(t, s, 4, 64, 0, api.ErrArg)
		expectCost(t, s, api.Bulk, 1025, 0, api.ErrArg)
		expectCost(t, s, 255, -1, 0, api.ErrArg)
	}
	for _, s := range allSpeeds {
		for _, k := range strangeKinds() {
			expectCost(t, s, k, 0, 0, api.ErrArg)
			expectCost(t, s, k, 1024, 0, api.ErrArg)
			expectCost(t, s, k, -1, 0, api.ErrArg)
		}
		for _, k := range allKinds {
			for _, n := range noBytes {
				expectCost(t, s, k, n, 0, api.ErrArg)
			}
		}
	}
}

// TestP4_7CostGrows: Cost never decreases if the number of bytes increases.
func TestP4_7CostGrows(t *testing.T) {
	for _, s := range allSpeeds {
		for _, k := range allKinds {
			before := 0
			for n := range api.MaxData + 1 {
				cost, e := speeds.Cost(s, k, n)
				if e != api.OK || cost < before {
					t.Errorf("Cost(%d, %d, %d) = %d, %d behind %d", s, k, n, cost, e, before)
				}
				before = cost
			}
		}
	}
}
