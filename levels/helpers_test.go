package levels_test

import (
	"bytes"
	"slices"
	"strings"
	"testing"

	"plugboard/api"
	"plugboard/levels"
)

// bitsOf returns the elements that a text of digits stands for.
func bitsOf(s string) []byte {
	out := []byte(s)
	for i := range out {
		out[i] -= '0'
	}
	return out
}

// textOf returns bits as a text of digits.
func textOf(bits []byte) string {
	out := bytes.Clone(bits)
	for i := range out {
		out[i] += '0'
	}
	return string(out)
}

// lineOf returns the states that a text of J, K, Z and other characters stands
// for; each other character is a state that is none of the three. Spaces are
// skipped.
func lineOf(s string) []levels.State {
	var out []levels.State
	for _, c := range strings.ReplaceAll(s, " ", "") {
		switch c {
		case 'J':
			out = append(out, 0)
		case 'K':
			out = append(out, 1)
		case 'Z':
			out = append(out, 2)
		default:
			out = append(out, levels.State(c))
		}
	}
	return out
}

// shown returns states as a text of J, K, Z and ?.
func shown(l []levels.State) string {
	var out strings.Builder
	for _, s := range l {
		out.WriteByte("JKZ?"[min(s, 3)])
	}
	return out.String()
}

// each calls f with all texts of 0 to most characters of an alphabet.
func each(alphabet string, most int, f func(string)) {
	texts := []string{""}
	for n := 0; ; n++ {
		var longer []string
		for _, s := range texts {
			f(s)
			for _, c := range alphabet {
				longer = append(longer, s+string(c))
			}
		}
		if n == most {
			return
		}
		texts = longer
	}
}

// framed returns the states of a packet whose bits, the sync included, are
// stuffed already, written independently of the package.
func framed(stuffed string) []levels.State {
	var out []levels.State
	state := levels.J
	for _, c := range stuffed {
		if c == '0' {
			state = 1 - state
		}
		out = append(out, state)
	}
	return append(out, levels.Zero, levels.Zero, levels.J)
}

// sync is the text of the sync.
const sync = "00000001"

// mustSend returns the states of a packet.
func mustSend(t *testing.T, b []byte) []levels.State {
	t.Helper()
	l, e := levels.Send(b)
	if e != api.OK {
		t.Fatalf("Send of %d bytes: error %d", len(b), e)
	}
	return l
}

// tight reports whether the capacity of a slice is its length.
func tight[T any](s []T) bool { return cap(s) == len(s) }

// samplePackets are packets that differ in length and in what is stuffed.
func samplePackets() [][]byte {
	long := make([]byte, levels.MaxPacket)
	for i := range long {
		long[i] = byte(i * 37)
	}
	return [][]byte{
		{0}, {1}, {210}, {0x1f}, {0x3f}, {0xfc}, {0xff}, {0x80}, {0x7e},
		{0xff, 0xff}, {0xff, 0xff, 0xff}, {0x00, 0xfc}, {0xe0, 0x07}, {1, 2, 3, 4, 5},
		bytes.Repeat([]byte{0xff}, 60), bytes.Repeat([]byte{0}, 60),
		bytes.Repeat([]byte{0xff}, levels.MaxPacket), long,
	}
}

// samePackets reports whether two lists of packets are equal.
func samePackets(a, b [][]byte) bool { return slices.EqualFunc(a, b, bytes.Equal) }
