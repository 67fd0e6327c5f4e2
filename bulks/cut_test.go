package bulks_test

import (
	"bytes"
	"math"
	"slices"
	"strconv"
	"testing"

	"plugboard/api"
	"plugboard/bulks"
)

// maxima are numbers around the limits of a packet, and far from them.
var maxima = []int{math.MinInt, -1024, -1, 0, 1, 2, 8, 1023, 1024, 1025, 1<<32 + 8, math.MaxInt}

// isMax reports whether packets may have at most this many bytes.
func isMax(n int) bool { return n > 0 && n < 1025 }

// expectCut compares what Cut returns with the definition.
func expectCut(t *testing.T, b []byte, max int, zero bool) {
	t.Helper()
	name := "Cut of " + strconv.Itoa(len(b)) + " bytes, max " + strconv.Itoa(max) + ", zero " + strconv.FormatBool(zero)
	l, e := bulks.Cut(b, max, zero)
	if !isMax(max) {
		if e != api.ErrArg || l != nil {
			t.Errorf("%s: %s, error %d", name, lengths(l), e)
		}
		return
	}
	if want := divided(b, max, zero); e != api.OK || !sameLists(l, want) {
		t.Errorf("%s: %s, error %d; expected %s", name, lengths(l), e, lengths(want))
	}
}

// TestP9_5Cut: bytes of all lengths that are few, of those around multiples of max,
// and of many.
func TestP9_5Cut(t *testing.T) {
	memory := mixed(200000, 1)
	for _, zero := range either {
		for max := range 20 {
			for n := range 90 {
				expectCut(t, memory[:n], max, zero)
			}
		}
		for _, max := range sizes {
			for _, n := range around(0, max, 2*max, 7*max, 10*max, 4096, 65536, 200000-1) {
				expectCut(t, memory[:n], max, zero)
			}
		}
		for _, max := range maxima {
			for _, n := range []int{0, 1, 5, 1024, 2048, 65537} {
				expectCut(t, memory[:n], max, zero)
			}
		}
	}
}

// joinedByDefinition returns the transfers of packets, and the rest: bytes belong to
// the transfer whose number is that of the short packets in front of them.
func joinedByDefinition(l [][]byte, max int) (done [][]byte, rest []byte) {
	all := [][]byte{nil}
	for _, b := range l {
		last := len(all) - 1
		all[last] = slices.Concat(all[last], b)
		if len(b) != max {
			all = append(all, nil)
		}
	}
	return all[:len(all)-1], all[len(all)-1]
}

// expectJoin compares what Join returns with the definition.
func expectJoin(t *testing.T, l [][]byte, max int) {
	t.Helper()
	name := "Join of " + lengths(l) + ", max " + strconv.Itoa(max)
	done, rest, e := bulks.Join(l, max)
	want := api.OK
	if slices.ContainsFunc(l, func(b []byte) bool { return len(b) > max }) {
		want = api.ErrLimit
	}
	if !isMax(max) {
		want = api.ErrArg
	}
	if e != want {
		t.Errorf("%s: error %d; expected %d", name, e, want)
		return
	}
	if e != api.OK {
		if done != nil || rest != nil {
			t.Errorf("%s: error %d, with %s and %s", name, e, lengths(done), shown(rest))
		}
		return
	}
	if transfers, left := joinedByDefinition(l, max); !sameLists(done, transfers) || !bytes.Equal(rest, left) {
		t.Errorf("%s: %s and %s; expected %s and %s", name, lengths(done), shown(rest), lengths(transfers), shown(left))
	}
}

// eachList calls f with all lists of up to n packets of these lengths.
func eachList(n int, sizes []int, f func(l [][]byte)) {
	var extend func(l [][]byte)
	extend = func(l [][]byte) {
		f(l)
		if len(l) == n {
			return
		}
		for i, size := range sizes {
			extend(append(slices.Clone(l), mixed(size, 50*len(l)+i)))
		}
	}
	extend(nil)
}

// TestP9_5Join: all lists of a few packets: empty ones, short ones, full ones, and
// such as are too long.
func TestP9_5Join(t *testing.T) {
	for max := range 4 {
		eachList(5, []int{0, 1, 2, 3, 4}, func(l [][]byte) { expectJoin(t, l, max) })
	}
	for _, max := range maxima {
		eachList(3, []int{0, 1, 2, 1023, 1024, 1025}, func(l [][]byte) { expectJoin(t, l, max) })
	}
	for _, max := range sizes {
		eachList(4, around(0, max), func(l [][]byte) { expectJoin(t, l, max) })
	}
}

// TestP9_5JoinMany: lists of many packets: empty, short and full ones, and one that
// is too long, at each place.
func TestP9_5JoinMany(t *testing.T) {
	for _, n := range []int{0, 1, 7, 8} {
		l := slices.Repeat([][]byte{mixed(n, 3)}, 300)
		expectJoin(t, l, 8)
		for i := range l {
			for _, other := range []int{0, 7, 8, 9} {
				with := slices.Clone(l)
				with[i] = mixed(other, 4)
				expectJoin(t, with, 8)
			}
		}
	}
	expectJoin(t, slices.Repeat([][]byte{mixed(1024, 3)}, 1000), 1024)
	expectJoin(t, slices.Repeat([][]byte{nil}, 100000), 1024)
}

// TestP9_5Examples: the rows of the chapter.
func TestP9_5Examples(t *testing.T) {
	for _, c := range []struct {
		n    int
		zero bool
		want string
	}{{5, false, "[2 2 1]"}, {4, false, "[2 2]"}, {4, true, "[2 2 0]"}, {0, false, "[0]"}, {0, true, "[0]"}} {
		l, e := bulks.Cut(mixed(c.n, 1), 2, c.zero)
		expectError(t, "Cut", e, api.OK)
		expect(t, "Cut of "+strconv.Itoa(c.n)+" bytes", lengths(l), c.want)
	}
	done, rest, e := bulks.Join([][]byte{{1, 2}, {3, 4}, {5}, {}, {6, 7}}, 2)
	expectError(t, "Join", e, api.OK)
	if !sameLists(done, [][]byte{{1, 2, 3, 4, 5}, {}}) {
		t.Errorf("Join: %s", lengths(done))
	}
	expectBytes(t, "the rest", rest, []byte{6, 7})
}
