package speeds_test

import (
	"bytes"
	"math"
	"math/big"
	"testing"

	"plugboard/api"
	"plugboard/levels"
)

// The speeds and the kinds.
var (
	allSpeeds = []api.Speed{api.Low, api.Full, api.High}
	allKinds  = []api.Kind{api.Control, api.Isochronous, api.Bulk, api.Interrupt}
)

// directions are IN and OUT.
var directions = []bool{true, false}

// strangeSpeeds are all numbers that are no speeds.
func strangeSpeeds() []api.Speed {
	var out []api.Speed
	for s := 3; s < 256; s++ {
		out = append(out, api.Speed(s))
	}
	return out
}

// strangeKinds are all numbers that are no kinds.
func strangeKinds() []api.Kind {
	var out []api.Kind
	for k := 4; k < 256; k++ {
		out = append(out, api.Kind(k))
	}
	return out
}

// farInts are integers that are no number of bytes.
func farInts() []int {
	return []int{
		math.MinInt, math.MinInt + 1, math.MinInt / 8, math.MinInt32, -65536, -1028, -1024, -256, -8, -2, -1,
		2048, 65536, math.MaxInt32, math.MaxInt32 + 1, math.MaxInt/8 - 1, math.MaxInt / 8, math.MaxInt - 3, math.MaxInt - 1, math.MaxInt,
	}
}

// longest returns the states of the packet of n bytes that lasts longest: all of
// its bits are 1.
func longest(t *testing.T, n int) int {
	t.Helper()
	l, e := levels.Send(bytes.Repeat([]byte{255}, n))
	if e != api.OK {
		t.Fatalf("levels.Send of %d bytes: error %d", n, e)
	}
	return len(l)
}

// lastings returns the bit times of the packets of each number of bytes, with
// their gaps. They are measured on packets that are sent, not computed.
func lastings(t *testing.T) []int {
	t.Helper()
	out := make([]int, levels.MaxPacket+1)
	for n := 1; n <= levels.MaxPacket; n++ {
		out[n] = longest(t, n) + 8
	}
	return out
}

// sumFits reports whether the sum of costs is at most a budget, in numbers that
// cannot overflow.
func sumFits(budget int, costs []int) bool {
	sum := new(big.Int)
	for _, cost := range costs {
		sum.Add(sum, big.NewInt(int64(cost)))
	}
	return sum.Cmp(big.NewInt(int64(budget))) <= 0
}

// fitting returns how many costs fit, by definition: the greatest number of
// them, none below 0, whose sum is at most the budget.
func fitting(budget int, costs []int) int {
	out := 0
	for n := 1; n <= len(costs) && costs[n-1] >= 0; n++ {
		if sumFits(budget, costs[:n]) {
			out = n
		}
	}
	return out
}
