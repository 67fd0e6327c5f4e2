package controls_test

import (
	"bytes"
	"encoding/binary"
	"math/bits"
	"math/rand"
	"testing"

	"plugboard/api"
	"plugboard/controls"
)

// byteList returns the bytes of a request by the definition of the chapter.
func byteList(r api.Request) []byte {
	b := []byte{r.Type, r.Code}
	for _, n := range []uint16{r.Value, r.Index, r.Length} {
		b = binary.LittleEndian.AppendUint16(b, n)
	}
	return b
}

// TestP8_1Examples: the example of the chapter.
func TestP8_1Examples(t *testing.T) {
	b := controls.Split(api.Request{Type: 128, Code: 6, Value: 256, Index: 0, Length: 18})
	expectBytes(t, "Split", b, []byte{128, 6, 0, 1, 0, 0, 18, 0})
	r, e := controls.Join([]byte{128, 6, 0, 1, 0, 0, 18, 0})
	if want := (api.Request{Type: 128, Code: 6, Value: 256, Length: 18}); r != want || e != api.OK {
		t.Errorf("Join: %s, error %d", requestText(r), e)
	}
}

// TestP8_1Bits: each bit of the bytes is another bit of the request.
func TestP8_1Bits(t *testing.T) {
	seen := map[api.Request]bool{}
	for i := range 64 {
		b := make([]byte, 8)
		b[i/8] = 1 << (i % 8)
		r, e := controls.Join(b)
		expectError(t, "Join", e, api.OK)
		expectBytes(t, requestText(r), byteList(r), b)
		expectBytes(t, "Split of "+requestText(r), controls.Split(r), b)
		if n := bits.OnesCount16(uint16(r.Type)<<8|uint16(r.Code)) + bits.OnesCount16(r.Value) + bits.OnesCount16(r.Index) + bits.OnesCount16(r.Length); n != 1 || seen[r] {
			t.Errorf("Join of bit %d: %s", i, requestText(r))
		}
		seen[r] = true
	}
}

// TestP8_1Inverse: Join and Split invert each other.
func TestP8_1Inverse(t *testing.T) {
	source := rand.New(rand.NewSource(81))
	for i := range 20000 {
		b := make([]byte, 8)
		source.Read(b)
		if i < 512 {
			b = bytes.Repeat([]byte{byte(i), byte(i >> 8 * 255)}, 4)
		}
		r, e := controls.Join(b)
		if e != api.OK || !bytes.Equal(byteList(r), b) || !bytes.Equal(controls.Split(r), b) {
			t.Fatalf("Join of %v: %s, error %d; Split of it is %v", b, requestText(r), e, controls.Split(r))
		}
	}
}

// TestP8_1Width: Join takes eight bytes only.
func TestP8_1Width(t *testing.T) {
	for n := range 300 {
		r, e := controls.Join(mixed(n, 1))
		if n == 8 {
			expectError(t, "Join of 8 bytes", e, api.OK)
			continue
		}
		if e != api.ErrWidth || r != (api.Request{}) {
			t.Errorf("Join of %d bytes: %s, error %d", n, requestText(r), e)
		}
	}
	for _, b := range [][]byte{nil, {}, make([]byte, 1<<16), make([]byte, 1<<16+8)} {
		_, e := controls.Join(b)
		expectError(t, "Join", e, api.ErrWidth)
	}
}

// TestP8_1Func: a function is called with what its method is called with, and its
// results are returned; nothing if it does not accept the request.
func TestP8_1Func(t *testing.T) {
	for _, reply := range []reply{{nil, true}, {[]byte{}, true}, {mixed(70, 2), true}, {nil, false}, {mixed(3, 2), false}} {
		for _, n := range []int{0, 1, 8, 1000} {
			k := &keeper{reply: reply}
			var h controls.Handler = controls.Func(k.Request)
			r := asking(uint8(n), n)
			in, ok := h.Request(r, mixed(n, 1))
			if ok != reply.ok || !ok && len(in) > 0 {
				t.Errorf("Request: %d bytes, %t", len(in), ok)
			}
			if ok {
				expectBytes(t, "Request", in, reply.in)
			}
			if !sameCalls(k.calls, []call{{r, mixed(n, 1)}}) {
				t.Errorf("the function was called %d times, or with something else", len(k.calls))
			}
		}
	}
}

// TestP8_1NilFunc: a nil function accepts nothing.
func TestP8_1NilFunc(t *testing.T) {
	for _, r := range []api.Request{{}, asking(inward, 8), asking(outward, 8)} {
		if in, ok := controls.Func(nil).Request(r, outOf(r)); in != nil || ok {
			t.Errorf("a nil Func accepts %s", requestText(r))
		}
	}
	z := made(t, 8, controls.Func(nil))
	z.Hear(api.Setup, data(api.Data0, controls.Split(asking(inward, 8))...))
	expect(t, "a nil Func behind a Zero", answerText(z.Hear(api.In, token(api.In, 0, 0))), "stall")
}
