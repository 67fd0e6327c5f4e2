package bulks_test

import (
	"math"
	"testing"

	"plugboard/api"
	"plugboard/bulks"
)

// startError returns the error of a plan by the chapter.
func startError(p bulks.Plan) api.Errno {
	valid := p.Endp > 0 && p.Endp < 16 && isMax(p.Max)
	if p.In {
		valid = valid && len(p.Data) == 0 && !p.Zero && p.Length > -1
	} else {
		valid = valid && p.Length == 0
	}
	switch {
	case !valid:
		return api.ErrArg
	case len(p.Data) >= 65537 || p.Length >= 65537:
		return api.ErrLimit
	}
	return api.OK
}

// expectStart compares what Start returns with the chapter.
func expectStart(t *testing.T, p bulks.Plan) {
	t.Helper()
	want := startError(p)
	x, e := bulks.Start(p)
	switch {
	case e != want:
		t.Errorf("Start of %s: error %d; expected %d", planText(p), e, want)
	case e != api.OK:
		expectZero(t, "Start of "+planText(p), x)
	default:
		pair{x, begin(p)}.expectSame(t, nil)
	}
}

// expectZero checks that nothing can be seen of a transfer, as of a zero one.
func expectZero(t *testing.T, name string, x bulks.Transfer) {
	t.Helper()
	expect(t, name+": Next", tryText(bulks.Next(x)), "none")
	expect(t, name+": End", endText(bulks.End(x)), "not over")
	if bulks.Toggle(x) || bulks.Errors(x) != 0 {
		t.Errorf("%s: toggle %t, %d errors", name, bulks.Toggle(x), bulks.Errors(x))
	}
}

// TestP9_1Start: plans whose fields are around their limits, in all combinations.
// ErrArg comes before ErrLimit.
func TestP9_1Start(t *testing.T) {
	memory := mixed(65538, 1)
	for _, endp := range []uint8{0, 1, 15, 16, 255} {
		for _, max := range maxima {
			for _, n := range []int{0, 1, 9, 65535, 65536, 65537} {
				for _, length := range []int{math.MinInt, -1, 0, 1, 9, 65535, 65536, 65537, 1<<32 + 1, math.MaxInt} {
					for bits := range 8 {
						expectStart(t, bulks.Plan{In: bits&1 == 1, Endp: endp, Max: max, Toggle: bits&2 == 2, Data: memory[:n], Zero: bits&4 == 4, Length: length})
					}
				}
			}
		}
	}
}

// TestP9_1Numbers: all numbers of an endpoint, and all of the bytes of a packet that
// are near its limits.
func TestP9_1Numbers(t *testing.T) {
	for endp := range 256 {
		for _, p := range []bulks.Plan{reading(9, 8), writing(9, 8), reading(65537, 8), writing(65537, 8)} {
			p.Endp = uint8(endp)
			expectStart(t, p)
		}
	}
	for max := -20; max < 1100; max++ {
		for _, p := range []bulks.Plan{reading(9, max), reading(0, max), writing(9, max), writing(0, max), terminated(writing(64, max))} {
			expectStart(t, p)
		}
	}
}

// TestP9_1Examples: the errors of the examples.
func TestP9_1Examples(t *testing.T) {
	p := reading(10, 8)
	p.Endp = 0
	_, e := bulks.Start(p)
	expectError(t, "Start with Endp 0", e, api.ErrArg)
	_, e = bulks.Start(reading(65537, 8))
	expectError(t, "Start with Length 65537", e, api.ErrLimit)
	p.Length = 65537
	_, e = bulks.Start(p)
	expectError(t, "Start with Endp 0, and Length 65537", e, api.ErrArg)
}
