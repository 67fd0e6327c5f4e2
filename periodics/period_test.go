package periodics_test

import (
	"testing"

	"plugboard/api"
	"plugboard/periodics"
)

// TestP10_1Examples: the examples of the document.
func TestP10_1Examples(t *testing.T) {
	for _, c := range []struct {
		s        api.Speed
		k        api.Kind
		interval int
		want     int
		e        api.Errno
	}{
		{api.Full, api.Interrupt, 10, 64, api.OK},
		{api.Low, api.Interrupt, 255, 256, api.OK},
		{api.Full, api.Isochronous, 1, 8, api.OK},
		{api.High, api.Interrupt, 4, 8, api.OK},
		{api.High, api.Isochronous, 16, 256, api.OK},
		{api.Low, api.Isochronous, 1, 0, api.ErrArg},
		{api.High, api.Bulk, 1, 0, api.ErrArg},
	} {
		if got, e := periodics.Period(c.s, c.k, c.interval); got != c.want || e != c.e {
			t.Errorf("Period of %d, %d, %d: %d, error %d; expected %d, error %d", c.s, c.k, c.interval, got, e, c.want, c.e)
		}
	}
}

// periodByTable returns the period by the rows of the table, or 0 if there is none.
func periodByTable(s api.Speed, k api.Kind, interval int) int {
	frames := [17]int{0, 8, 16, 32, 64, 128, 256, 256, 256, 256, 256, 256, 256, 256, 256, 256, 256}
	ticks := [17]int{0, 1, 2, 4, 8, 16, 32, 64, 128, 256, 256, 256, 256, 256, 256, 256, 256}
	switch {
	case k == api.Interrupt && (s == api.Low || s == api.Full):
		return periodOfFrames(interval)
	case interval < 1 || interval > 16:
		return 0
	case s == api.Full && k == api.Isochronous:
		return frames[interval]
	case s == api.High && k == api.Isochronous, s == api.High && k == api.Interrupt:
		return ticks[interval]
	}
	return 0
}

// periodOfFrames returns the ticks of so many frames, or 0 if they are no interval.
func periodOfFrames(interval int) int {
	switch {
	case interval < 1 || interval > 255:
		return 0
	case interval < 2:
		return 8
	case interval < 4:
		return 16
	case interval < 8:
		return 32
	case interval < 16:
		return 64
	case interval < 32:
		return 128
	}
	return 256
}

// expectPeriod compares what Period returns with the table.
func expectPeriod(t *testing.T, s api.Speed, k api.Kind, interval int) {
	t.Helper()
	want, wantedError := periodByTable(s, k, interval), api.OK
	if want == 0 {
		wantedError = api.ErrArg
	}
	if got, e := periodics.Period(s, k, interval); got != want || e != wantedError {
		t.Errorf("Period of %d, %d, %d: %d, error %d; expected %d, error %d", s, k, interval, got, e, want, wantedError)
	}
}

// TestP10_1Period: all speeds and kinds, known and unknown, with intervals around the
// limits of the rows and around powers of 2.
func TestP10_1Period(t *testing.T) {
	intervals := around(append([]int{0, 16, 255, 1<<16 + 1, 1<<32 + 1, 1 << 62}, powers...)...)
	for s := range 256 {
		for k := range 256 {
			for _, interval := range intervals {
				expectPeriod(t, api.Speed(s), api.Kind(k), interval)
			}
		}
	}
}

// TestP10_1Intervals: all intervals that are not far from those of the rows.
func TestP10_1Intervals(t *testing.T) {
	for s := range api.Speed(5) {
		for k := range api.Kind(6) {
			for interval := -300; interval < 600; interval++ {
				expectPeriod(t, s, k, interval)
			}
		}
	}
}
