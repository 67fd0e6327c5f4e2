package controls_test

import (
	"math"
	"slices"
	"testing"

	"plugboard/api"
	"plugboard/controls"
)

// TestP8_3Start: packets have at most 8, 16, 32 or 64 bytes, and out has Length
// bytes for a request that writes, and none for others. The first error is that of
// the packets.
func TestP8_3Start(t *testing.T) {
	memory := mixed(65537, 1)
	maxima := []int{math.MinInt, -8, -1, 0, 1, 7, 8, 9, 15, 16, 17, 24, 31, 32, 33, 63, 64, 65, 128, 1024, 1<<32 + 8, math.MaxInt}
	for typ := range 256 {
		for _, length := range []int{0, 1, 8, 9, 255, 256, 65535} {
			for _, n := range []int{0, 1, 7, 8, 9, 10, 255, 256, 257, 65534, 65535, 65536, 65537} {
				for _, max := range maxima {
					r := asking(uint8(typ), length)
					want := api.OK
					switch {
					case !slices.Contains(sizes, max):
						want = api.ErrArg
					case typ < 128 && n != length || typ >= 128 && n != 0:
						want = api.ErrWidth
					}
					if x, e := controls.Start(r, memory[:n], max); e != want || !startsWell(x, r, e) {
						t.Fatalf("Start of %s with %d bytes, max %d: error %d; expected %d", requestText(r), n, max, e, want)
					}
				}
			}
		}
	}
}

// startsWell reports whether a transfer is in the setup stage, or zero with an error.
func startsWell(x controls.Transfer, r api.Request, e api.Errno) bool {
	try, ok := controls.Next(x)
	b, ending := controls.End(x)
	if len(b) > 0 {
		return false
	}
	if e != api.OK {
		return !ok && ending == api.ErrNil
	}
	return ok && ending == api.ErrState && try.What == api.Setup && slices.Equal(try.Data, byteList(r))
}

// TestP8_3Examples: the errors of the examples.
func TestP8_3Examples(t *testing.T) {
	_, e := controls.Start(api.Request{Type: 128, Code: 6, Length: 18}, nil, 9)
	expectError(t, "Start with max 9", e, api.ErrArg)
	_, e = controls.Start(api.Request{Code: 6, Length: 9}, make([]byte, 8), 8)
	expectError(t, "Start with Length 9, and 8 bytes", e, api.ErrWidth)
	_, e = controls.Start(api.Request{Code: 6, Length: 9}, make([]byte, 8), 9)
	expectError(t, "Start with max 9, Length 9, and 8 bytes", e, api.ErrArg)
}
