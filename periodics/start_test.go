package periodics_test

import (
	"math"
	"testing"

	"plugboard/api"
	"plugboard/periodics"
)

// startError returns the error of a plan by the chapter.
func startError(p periodics.Plan) api.Errno {
	switch {
	case p.Endp == 0 || p.Endp > 15 || p.Max <= 0 || p.Max > 1024:
		return api.ErrArg
	case p.In && (len(p.Packets) != 0 || p.Many <= 0):
		return api.ErrArg
	case !p.In && (p.Many != 0 || len(p.Packets) == 0):
		return api.ErrArg
	case p.Many > 256 || len(p.Packets) > 256:
		return api.ErrLimit
	}
	for _, packet := range p.Packets {
		if len(packet) > p.Max {
			return api.ErrLimit
		}
	}
	return api.OK
}

// expectStart compares what Start returns with the chapter.
func expectStart(t *testing.T, p periodics.Plan) {
	t.Helper()
	x, e := periodics.Start(p)
	switch want := startError(p); {
	case e != want:
		t.Errorf("Start of %s: error %d; expected %d", planText(p), e, want)
	case e != api.OK:
		if !isZero(x) {
			t.Errorf("Start of %s: the transfer is not zero", planText(p))
		}
	default:
		pair{x, model{p: p}}.expectSame(t)
	}
}

// lists are lists of packets around their limits, where packets may have this many
// bytes.
func lists(max int) [][][]byte {
	max = min(max, 2000)
	sized := func(count int, odd ...int) [][]byte {
		l := make([][]byte, count)
		for i, n := range odd {
			l[i] = make([]byte, n)
			l[count-1-i] = make([]byte, n)
		}
		return l
	}
	all := [][][]byte{nil, {}, sized(1), sized(2), sized(255), sized(256), sized(257), sized(600)}
	if max > 0 {
		all = append(all, sized(1, max), sized(1, max+1), sized(3, max), sized(3, 0, max+1), sized(256, max), sized(256, max+1), sized(257, max+1), sized(300, 0, 0, max+1))
	}
	return all
}

// TestP10_3Start: plans whose fields are around their limits, in all combinations.
// ErrArg comes before ErrLimit.
func TestP10_3Start(t *testing.T) {
	for _, max := range around(-1024, 0, 8, 1024, 1<<32+8) {
		for _, l := range lists(max) {
			for _, many := range around(0, 2, 256, 1<<32+1) {
				for _, endp := range []uint8{0, 1, 15, 16, 255} {
					for _, in := range either {
						expectStart(t, periodics.Plan{In: in, Endp: endp, Max: max, Packets: l, Many: many})
					}
				}
			}
		}
	}
}

// TestP10_3Numbers: all numbers of an endpoint, of bytes of a packet and of packets
// that are near their limits.
func TestP10_3Numbers(t *testing.T) {
	for n := -20; n < 1100; n++ {
		for _, p := range []periodics.Plan{reading(9, 8), writing(8, 7, 8), reading(257, 8), writing(8, 9)} {
			p.Endp = uint8(n)
			expectStart(t, p)
			p.Endp, p.Max = 15, n
			expectStart(t, p)
			p.Max, p.Many = 8, n
			expectStart(t, p)
		}
	}
	for n := range 520 {
		expectStart(t, periodics.Plan{Endp: 1, Max: 8, Packets: make([][]byte, n)})
		expectStart(t, periodics.Plan{Endp: 1, Max: 256, Packets: [][]byte{make([]byte, n)}})
	}
}

// TestP10_3Order: the errors of plans for which several apply.
func TestP10_3Order(t *testing.T) {
	for _, c := range []struct {
		p periodics.Plan
		e api.Errno
	}{
		{reading(1, 1), api.OK},
		{reading(256, 1024), api.OK},
		{reading(257, 1024), api.ErrLimit},
		{reading(math.MaxInt, 1024), api.ErrLimit},
		{reading(0, 1024), api.ErrArg},
		{reading(257, 1025), api.ErrArg},
		{periodics.Plan{In: true, Max: 8, Many: 257}, api.ErrArg},
		{periodics.Plan{In: true, Endp: 1, Max: 8, Many: 257, Packets: [][]byte{nil}}, api.ErrArg},
		{writing(8, 0), api.OK},
		{writing(8, 8, 8), api.OK},
		{writing(8, 8, 9), api.ErrLimit},
		{writing(8), api.ErrArg},
		{writing(0, 9), api.ErrArg},
		{periodics.Plan{Endp: 16, Max: 8, Packets: make([][]byte, 257)}, api.ErrArg},
		{periodics.Plan{Endp: 1, Max: 8, Many: 1, Packets: make([][]byte, 257)}, api.ErrArg},
		{periodics.Plan{Endp: 1, Max: 8, Many: -1, Packets: make([][]byte, 1)}, api.ErrArg},
	} {
		if _, e := periodics.Start(c.p); e != c.e {
			t.Errorf("Start of %s: error %d; expected %d", planText(c.p), e, c.e)
		}
	}
	if periodics.MaxPackets != 256 {
		t.Errorf("MaxPackets is %d", periodics.MaxPackets)
	}
}
