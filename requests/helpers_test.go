package requests_test

import (
	"bytes"
	"math"
	"slices"
	"strings"
	"testing"

	"plugboard/api"
	"plugboard/requests"
)

// either is both values.
var either = []bool{false, true}

// mixed returns n bytes that differ.
func mixed(n, from int) []byte {
	out := make([]byte, n)
	for i := range out {
		out[i] = byte(from + i*i*31 + i*7)
	}
	return out
}

// words16 are numbers of two bytes: the least and the greatest, those at the edges of
// the table and of each byte, and others.
func words16() []uint16 {
	return []uint16{
		0, 1, 2, 3, 7, 15, 16, 18, 126, 127, 128, 129, 142, 143, 144, 254, 255, 256, 257, 271, 272,
		0x0180, 0x0f00, 0x1000, 0x1234, 0x7fff, 0x8000, 0x8080, 0xabcd, 0xff00, 0xff7f, 65534, 65535,
	}
}

// samples are requests with each Type, and with each Code, and with each of the
// numbers in each other field, alone and together.
func samples() []api.Request {
	var out []api.Request
	for n := range 256 {
		b := uint8(n)
		out = append(out, api.Request{Type: b}, api.Request{Code: b}, api.Request{Type: b, Code: b, Value: 0x0102, Index: 0x0304, Length: 0x0506})
		for _, t := range []uint8{0x20, 0x40, 0x60, 0x80, 0xa0, 0xc0, 0xe0, 0x1f, 0xff} {
			out = append(out, api.Request{Type: t, Code: b, Value: uint16(n) * 257, Length: uint16(n)})
		}
	}
	for _, n := range words16() {
		out = append(out, api.Request{Value: n}, api.Request{Index: n}, api.Request{Length: n},
			api.Request{Type: 0x80, Code: 6, Value: n, Index: n, Length: n}, api.Request{Type: 0xff, Code: 0xff, Value: ^n, Index: n, Length: ^n})
	}
	return append(out, formed()...)
}

// formed are requests that are well formed, some for each row of the table.
func formed() []api.Request {
	var out []api.Request
	for _, l := range table {
		for _, value := range edges(l.values) {
			for _, index := range edges(l.indices) {
				for _, length := range edges(l.lengths) {
					out = append(out, api.Request{Type: l.kind, Code: l.code, Value: value, Index: index, Length: length})
				}
			}
		}
	}
	return out
}

// edges returns the least and the greatest numbers of spans.
func edges(l []span) []uint16 {
	var out []uint16
	for _, s := range l {
		out = append(out, uint16(s.lo), uint16(s.hi))
	}
	return slices.Compact(out)
}

// around returns the numbers at the edges of spans and those next to them, and the
// numbers of words16, each once.
func around(l []span) []uint16 {
	out := words16()
	for _, n := range edges(l) {
		out = append(out, n-1, n, n+1)
	}
	slices.Sort(out)
	return slices.Compact(out)
}

// guarded is memory with more behind it, and what all of it was.
type guarded struct{ whole, was []byte }

// guard lays bytes into new memory.
func guard(b []byte) *guarded {
	whole := append(bytes.Clone(b), "behind it"...)
	return &guarded{whole, bytes.Clone(whole)}
}

// bytes returns the bytes, with spare capacity.
func (g *guarded) bytes() []byte { return g.whole[:len(g.whole)-len("behind it")] }

// expectStays checks that nothing has changed.
func (g *guarded) expectStays(t *testing.T, name string) {
	t.Helper()
	if !bytes.Equal(g.whole, g.was) {
		t.Errorf("%s: the memory of an argument changes", name)
	}
}

// spoil overwrites the bytes of a slice, and what lies behind them.
func spoil(b []byte) {
	for i := range b[:cap(b)] {
		b[:cap(b)][i] ^= 0xff
	}
}

// short returns the beginning of a text, for messages.
func short(text string) string {
	if len(text) > 200 {
		return text[:200] + " .."
	}
	return text
}

// expectCheck compares the error of a request with the one that the model expects.
func expectCheck(t *testing.T, r api.Request) {
	t.Helper()
	if got, want := requests.Check(r), modelCheck(r); got != want {
		t.Errorf("Check of %+v = %d; expected %d", r, got, want)
	}
}

// expectRequest compares a request with an error.
func expectRequest(t *testing.T, name string, r api.Request, e api.Errno, want api.Request, wantError api.Errno) {
	t.Helper()
	if r != want || e != wantError {
		t.Errorf("%s = %+v, error %d; expected %+v, error %d", short(name), r, e, want, wantError)
	}
}

// expectParse parses a text, and compares the result with that of the model.
func expectParse(t *testing.T, text string) {
	t.Helper()
	r, e := requests.Parse(text)
	want, wantError := modelParse(text)
	expectRequest(t, "Parse of "+short(text), r, e, want, wantError)
}

// expectNone checks that a text is that of no request, by the package and the model.
func expectNone(t *testing.T, text string) {
	t.Helper()
	expectParse(t, text)
	r, e := requests.Parse(text)
	expectRequest(t, "Parse of "+short(text), r, e, api.Request{}, api.ErrForm)
}

// with returns a text with another word at a place.
func with(text string, place int, word string) string {
	words := strings.Split(text, " ")
	words[place] = word
	return strings.Join(words, " ")
}

// sampleTexts are texts with each direction, kind, receiver and code, and numbers of
// each width.
func sampleTexts() []string {
	return []string{
		"in standard device GetDescriptor 256 0 18",
		"in class other 0 0 1 4",
		"out standard device SetAddress 127 0 0",
		"out standard endpoint ClearFeature 0 129 0",
		"out standard device SetFeature 1 0 0",
		"in standard interface GetInterface 0 15 1",
		"out standard interface SetInterface 15 0 0",
		"in standard device GetConfiguration 0 0 1",
		"out standard device SetConfiguration 255 0 0",
		"out standard device SetDescriptor 65535 65535 65535",
		"in standard endpoint SynchFrame 0 143 2",
		"in standard 4 GetStatus 0 0 2",
		"out vendor 31 255 65535 10 9",
		"in reserved 10 12 1 22 333",
		"out standard other 2 4444 55555 0",
		"in standard interface 13 0 0 0",
		"out class endpoint 0 0 0 0",
	}
}

// extremes are numbers far above those of bytes.
var extremes = []string{
	"65536", "65537", "65791", "65792", "70000", "100000", "131072", "4294967296", "4294967295", "9223372036854775807", "9223372036854775808",
	"18446744073709551615", "18446744073709551616", "99999999999999999999999999", "1" + strings.Repeat("0", 1000),
}

// maxWord is the greatest number of two bytes.
const maxWord = math.MaxUint16
