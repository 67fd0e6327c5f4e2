package requests_test

import (
	"bytes"
	"fmt"
	"testing"

	"plugboard/api"
	"plugboard/requests"
)

// coded are requests, and their bytes: the example of the chapter, each field at its
// greatest value, and with each of its bytes alone.
var coded = []struct {
	r api.Request
	b []byte
}{
	{api.Request{}, []byte{0, 0, 0, 0, 0, 0, 0, 0}},
	{requests.Descriptor(1, 0, 0, 18), []byte{128, 6, 0, 1, 0, 0, 18, 0}},
	{api.Request{Type: 163, Index: 1, Length: 4}, []byte{163, 0, 0, 0, 1, 0, 4, 0}},
	{api.Request{Type: 1, Code: 2, Value: 0x0403, Index: 0x0605, Length: 0x0807}, []byte{1, 2, 3, 4, 5, 6, 7, 8}},
	{api.Request{Type: 255}, []byte{255, 0, 0, 0, 0, 0, 0, 0}},
	{api.Request{Code: 255}, []byte{0, 255, 0, 0, 0, 0, 0, 0}},
	{api.Request{Value: 65535}, []byte{0, 0, 255, 255, 0, 0, 0, 0}},
	{api.Request{Value: 255}, []byte{0, 0, 255, 0, 0, 0, 0, 0}},
	{api.Request{Value: 65280}, []byte{0, 0, 0, 255, 0, 0, 0, 0}},
	{api.Request{Index: 65535}, []byte{0, 0, 0, 0, 255, 255, 0, 0}},
	{api.Request{Index: 255}, []byte{0, 0, 0, 0, 255, 0, 0, 0}},
	{api.Request{Index: 65280}, []byte{0, 0, 0, 0, 0, 255, 0, 0}},
	{api.Request{Length: 65535}, []byte{0, 0, 0, 0, 0, 0, 255, 255}},
	{api.Request{Length: 255}, []byte{0, 0, 0, 0, 0, 0, 255, 0}},
	{api.Request{Length: 65280}, []byte{0, 0, 0, 0, 0, 0, 0, 255}},
	{api.Request{Type: 255, Code: 255, Value: 65535, Index: 65535, Length: 65535}, []byte{255, 255, 255, 255, 255, 255, 255, 255}},
}

// TestP12_1Examples: requests and their bytes, both ways.
func TestP12_1Examples(t *testing.T) {
	for _, c := range coded {
		if got := requests.Encode(c.r); !bytes.Equal(got, c.b) {
			t.Errorf("Encode of %+v = %v; expected %v", c.r, got, c.b)
		}
		r, e := requests.Decode(c.b)
		expectRequest(t, fmt.Sprintf("Decode of %v", c.b), r, e, c.r, api.OK)
	}
}

// TestP12_1EachByte: each value of each byte is in its place of its field, whatever the
// other bytes are.
func TestP12_1EachByte(t *testing.T) {
	for place := range 8 {
		for value := range 256 {
			for _, b := range [][]byte{make([]byte, 8), mixed(8, 5), bytes.Repeat([]byte{255}, 8)} {
				b[place] = byte(value)
				want := api.Request{
					Type: b[0], Code: b[1], Value: uint16(b[2]) + 256*uint16(b[3]),
					Index: uint16(b[4]) + 256*uint16(b[5]), Length: uint16(b[6]) + 256*uint16(b[7]),
				}
				r, e := requests.Decode(b)
				expectRequest(t, fmt.Sprintf("Decode of %v", b), r, e, want, api.OK)
				if got := requests.Encode(want); !bytes.Equal(got, b) {
					t.Errorf("Encode of %+v = %v; expected %v", want, got, b)
				}
			}
		}
	}
}

// TestP12_1Widths: bytes of any other number than eight are no request.
func TestP12_1Widths(t *testing.T) {
	widths := []int{63, 64, 65, 255, 256, 257, 264, 1024, 65536, 65544}
	for n := range 41 {
		widths = append(widths, n)
	}
	for _, n := range widths {
		for _, b := range [][]byte{make([]byte, n), mixed(n, 9), append(make([]byte, 0, n+8), mixed(n, 1)...)} {
			r, e := requests.Decode(b)
			if n == 8 {
				expectRequest(t, fmt.Sprintf("Decode of %v", b), r, e, r, api.OK)
			} else {
				expectRequest(t, fmt.Sprintf("Decode of %d bytes", n), r, e, api.Request{}, api.ErrWidth)
			}
		}
	}
}

// TestP12_1None: nil and empty bytes are no request.
func TestP12_1None(t *testing.T) {
	for _, b := range [][]byte{nil, {}, make([]byte, 0, 8), mixed(8, 1)[:0]} {
		r, e := requests.Decode(b)
		expectRequest(t, "Decode of no bytes", r, e, api.Request{}, api.ErrWidth)
	}
}

// TestP12_1Part: only the bytes of the slice count, wherever they are in its memory.
func TestP12_1Part(t *testing.T) {
	memory := mixed(24, 3)
	for from := range 17 {
		part := memory[from : from+8]
		r, e := requests.Decode(part)
		want, _ := requests.Decode(bytes.Clone(part))
		expectRequest(t, fmt.Sprintf("Decode from %d on", from), r, e, want, api.OK)
		if got := requests.Encode(r); !bytes.Equal(got, part) {
			t.Errorf("from %d on: %v; expected %v", from, got, part)
		}
	}
}
