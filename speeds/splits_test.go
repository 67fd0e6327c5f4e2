package speeds_test

import (
	"testing"

	"plugboard/api"
	"plugboard/speeds"
)

// split is Start or Complete.
type split struct {
	name string
	call func(api.Kind, bool, int) (int, api.Errno)
}

// The two halves of a split transaction.
var (
	start    = split{"Start", speeds.Start}
	complete = split{"Complete", speeds.Complete}
)

// expect compares a split with what is expected.
func (s split) expect(t *testing.T, k api.Kind, in bool, n, want int, e api.Errno) {
	t.Helper()
	if got, f := s.call(k, in, n); got != want || f != e {
		t.Errorf("%s(%d, %t, %d) = %d, %d; expected %d, %d", s.name, k, in, n, got, f, want, e)
	}
}

// TestP4_3Examples: the results that the chapter lists.
func TestP4_3Examples(t *testing.T) {
	start.expect(t, api.Bulk, true, 64, 131, api.OK)
	start.expect(t, api.Bulk, false, 64, 775, api.OK)
	start.expect(t, api.Interrupt, true, 8, 103, api.OK)
	complete.expect(t, api.Bulk, true, 64, 775, api.OK)
	complete.expect(t, api.Bulk, false, 64, 131, api.OK)
	complete.expect(t, api.Isochronous, false, 64, 0, api.ErrArg)
}

// TestP4_3Packets: which packets there are, for each kind in both directions: a
// split packet and a token last 103 bit times, data of 64 bytes 644, and a
// handshake 28.
func TestP4_3Packets(t *testing.T) {
	const front, data, handshake = 103, 644, 28
	for _, c := range []struct {
		k                                      api.Kind
		startIn, startOut, resultIn, resultOut int
	}{
		{api.Control, front + handshake, front + data + handshake, front + data + handshake, front + handshake},
		{api.Isochronous, front, front + data, front + data, 0},
		{api.Bulk, front + handshake, front + data + handshake, front + data + handshake, front + handshake},
		{api.Interrupt, front, front + data, front + data + handshake, front + handshake},
	} {
		start.expect(t, c.k, true, 64, c.startIn, api.OK)
		start.expect(t, c.k, false, 64, c.startOut, api.OK)
		complete.expect(t, c.k, true, 64, c.resultIn, api.OK)
		if c.resultOut > 0 {
			complete.expect(t, c.k, false, 64, c.resultOut, api.OK)
		}
	}
}

// startOf returns the bit times of a start split, by definition.
func startOf(lasts []int, k api.Kind, in bool, n int) int {
	cost := lasts[4] + lasts[3]
	if !in {
		cost += lasts[n+3]
	}
	if k == api.Control || k == api.Bulk {
		cost += lasts[1]
	}
	return cost
}

// completeOf returns the bit times of a complete split, by definition.
func completeOf(lasts []int, k api.Kind, in bool, n int) int {
	cost := lasts[4] + lasts[3]
	if in {
		cost += lasts[n+3]
	}
	if !in || k != api.Isochronous {
		cost += lasts[1]
	}
	return cost
}

// TestP4_3ByDefinition: every kind, both directions, and every number of bytes.
func TestP4_3ByDefinition(t *testing.T) {
	lasts := lastings(t)
	for _, k := range allKinds {
		for _, in := range directions {
			for n := range api.MaxData + 1 {
				start.expect(t, k, in, n, startOf(lasts, k, in, n), api.OK)
				if k == api.Isochronous && !in {
					complete.expect(t, k, in, n, 0, api.ErrArg)
				} else {
					complete.expect(t, k, in, n, completeOf(lasts, k, in, n), api.OK)
				}
			}
		}
	}
}

// TestP4_3Invalid: numbers that are no kinds and no numbers of bytes, each alone
// and together.
func TestP4_3Invalid(t *testing.T) {
	noBytes := append(farInts(), -1, 1025, 1026, 1027)
	for _, s := range []split{start, complete} {
		for _, in := range directions {
			for _, k := range strangeKinds() {
				for _, n := range []int{0, 64, 1024, -1, 1025} {
					s.expect(t, k, in, n, 0, api.ErrArg)
				}
			}
			for _, k := range allKinds {
				for _, n := range noBytes {
					s.expect(t, k, in, n, 0, api.ErrArg)
				}
			}
		}
	}
}

// TestP4_7SplitsGrow: Start and Complete never decrease if the number of bytes
// increases.
func TestP4_7SplitsGrow(t *testing.T) {
	for _, s := range []split{start, complete} {
		for _, k := range allKinds {
			for _, in := range directions {
				before := 0
				for n := range api.MaxData + 1 {
					cost, _ := s.call(k, in, n)
					if cost < before {
						t.Errorf("%s(%d, %t, %d) = %d behind %d", s.name, k, in, n, cost, before)
					}
					before = cost
				}
			}
		}
	}
}
