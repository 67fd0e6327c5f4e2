package requests_test

import (
	"bytes"
	"fmt"
	"strconv"
	"strings"
	"sync"
	"testing"

	"plugboard/api"
	"plugboard/requests"
)

// decimal returns the digits of a number.
func decimal(n int) string { return strconv.Itoa(n) }

// TestR1Arguments: Decode changes neither its bytes nor what lies behind them, and what
// it returns does not change with them.
func TestR1Arguments(t *testing.T) {
	for n := range 20 {
		g := guard(mixed(n, 7))
		r, e := requests.Decode(g.bytes())
		g.expectStays(t, fmt.Sprintf("Decode of %d bytes", n))
		was := r
		spoil(g.bytes())
		expectRequest(t, "Decode, with its argument changed", r, e, was, e)
	}
	text := []byte("in standard device GetDescriptor 256 0 18")
	s := string(text)
	r, _ := requests.Parse(s)
	if s != string(text) || requests.Text(r) != s {
		t.Errorf("the text is %q behind Parse", s)
	}
}

// TestR4NewMemory: what Encode returns has eight bytes, no spare capacity, and memory of
// its own.
func TestR4NewMemory(t *testing.T) {
	for _, r := range samples() {
		was := r
		one, other := requests.Encode(r), requests.Encode(r)
		if len(one) != 8 || cap(one) != 8 {
			t.Errorf("Encode of %+v: %d bytes, capacity %d", r, len(one), cap(one))
		}
		want := bytes.Clone(other)
		spoil(one)
		if !bytes.Equal(other, want) || !bytes.Equal(requests.Encode(r), want) {
			t.Errorf("Encode of %+v: its results share memory", r)
		}
		if r != was {
			t.Errorf("Encode of %+v changes it", was)
		}
	}
}

// TestR2Zeros: with an error every other result is zero.
func TestR2Zeros(t *testing.T) {
	for n := range 20 {
		if r, e := requests.Decode(bytes.Repeat([]byte{255}, n)); e != api.OK && r != (api.Request{}) {
			t.Errorf("Decode of %d bytes: error %d, and %+v", n, e, r)
		}
	}
	for _, c := range [][2]uint8{{4, 0}, {0, 32}, {4, 32}, {255, 255}, {3, 32}, {4, 31}} {
		for _, in := range either {
			if got, e := requests.Type(in, c[0], c[1]); got != 0 || e != api.ErrArg {
				t.Errorf("Type(%t, %d, %d) = %d, error %d", in, c[0], c[1], got, e)
			}
		}
	}
	for _, text := range []string{"in class other 255 65535 65535 65536", "in class other 256 1 1 1", "in class 32 1 1 1 1", "in class other 1 1 1 1 1"} {
		expectNone(t, text)
	}
}

// TestR2First: a request that has several errors has the first one.
func TestR2First(t *testing.T) {
	for kind := range 256 {
		for _, code := range []uint8{2, 4, 13, 14, 127, 128, 255} {
			want := api.ErrNone
			if kind/32%4 != 0 {
				want = api.ErrArg
			}
			r := api.Request{Type: uint8(kind), Code: code, Value: 65535, Index: 65535, Length: 65535}
			if got := requests.Check(r); got != want {
				t.Errorf("Check of %+v = %d; expected %d", r, got, want)
			}
		}
	}
}

// resultText returns what all functions return for a request, as a text.
func resultText(r api.Request) string {
	b, text := requests.Encode(r), requests.Text(r)
	back, e := requests.Decode(b)
	parsed, parseError := requests.Parse(text)
	kind, typeError := requests.Type(requests.In(r), requests.Kind(r), requests.Receiver(r))
	return fmt.Sprint(b, text, back, e, parsed, parseError, kind, typeError, requests.Check(r))
}

// TestP1Same: the same calls have the same results, in any order, and also at once.
func TestP1Same(t *testing.T) {
	list := samples()
	want := make([]string, len(list))
	for i, r := range list {
		want[i] = resultText(r)
	}
	var group sync.WaitGroup
	got := make([]string, len(list))
	for worker := range 4 {
		group.Go(func() {
			for i := len(list) - 1 - worker; i >= 0; i -= 4 {
				got[i] = resultText(list[i])
			}
		})
	}
	group.Wait()
	for i, r := range list {
		if got[i] != want[i] {
			t.Errorf("the results for %+v differ: %s; %s", r, got[i], want[i])
		}
	}
}

// FuzzRequests: any fields, bytes and texts.
func FuzzRequests(f *testing.F) {
	f.Add(uint8(163), uint8(0), uint16(0), uint16(1), uint16(4), mixed(8, 1), "in class other 0 0 1 4")
	f.Add(uint8(128), uint8(6), uint16(256), uint16(0), uint16(18), []byte{}, "in standard device GetDescriptor 256 0 18")
	f.Add(uint8(255), uint8(255), uint16(65535), uint16(65535), uint16(65535), mixed(9, 1), "out  standard 31 0 65536 -1")
	f.Fuzz(func(t *testing.T, kind, code uint8, value, index, length uint16, b []byte, text string) {
		r := api.Request{Type: kind, Code: code, Value: value, Index: index, Length: length}
		expectCheck(t, r)
		expectText(t, r)
		expectParse(t, text)
		expectParse(t, strings.ToValidUTF8(text, " "))
		for place := range 7 {
			expectParse(t, with(requests.Text(r), place, text))
		}
		back, e := requests.Decode(requests.Encode(r))
		expectRequest(t, "Decode of Encode", back, e, r, api.OK)
		g := guard(b)
		read, e := requests.Decode(g.bytes())
		g.expectStays(t, "Decode")
		if (e == api.OK) != (len(b) == 8) || e != api.OK && (e != api.ErrWidth || read != api.Request{}) {
			t.Errorf("Decode of %v = %+v, error %d", b, read, e)
		}
		if e == api.OK && !bytes.Equal(requests.Encode(read), b) {
			t.Errorf("Encode of %+v is not %v", read, b)
		}
		expectMade(t, "Descriptor", requests.Descriptor(kind, code, index, length), api.Request{Type: 128, Code: 6, Value: 256*uint16(kind) + uint16(code), Index: index, Length: length})
		expectMade(t, "Feature", requests.Feature(kind > 127, code, value, index), api.Request{Type: code % 32, Code: 1 + kind/128*2, Value: value, Index: index})
	})
}
