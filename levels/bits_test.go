package levels_test

import (
	"bytes"
	"strings"
	"testing"

	"plugboard/api"
	"plugboard/levels"
)

// TestP1_1BitsAndBytes: bits of bytes, the lowest first, and back.
func TestP1_1BitsAndBytes(t *testing.T) {
	for _, c := range []struct{ bytes, bits string }{
		{"", ""},
		{"\x00", "00000000"},
		{"\x01", "10000000"},
		{"\x80", "00000001"},
		{"\xff", "11111111"},
		{"\xd2", "01001011"},
		{"\x01\x80\x35", "100000000000000110101100"},
	} {
		if got := levels.Bits([]byte(c.bytes)); textOf(got) != c.bits || !tight(got) {
			t.Errorf("Bits of %x = %s, capacity %d", c.bytes, textOf(got), cap(got))
		}
		got, e := levels.Bytes(bitsOf(c.bits))
		if e != api.OK || string(got) != c.bytes || !tight(got) {
			t.Errorf("Bytes of %s = %x, %d, capacity %d", c.bits, got, e, cap(got))
		}
	}
}

// TestP1_1AllBytes: Bytes inverts Bits for each byte, wherever it stands.
func TestP1_1AllBytes(t *testing.T) {
	for x := range 256 {
		b := []byte{byte(x), byte(255 - x), byte(x * 7)}
		bits := levels.Bits(b)
		for i := range 8 {
			if bits[i] != byte(x>>i&1) {
				t.Errorf("bit %d of %d is %d", i, x, bits[i])
			}
		}
		if got, e := levels.Bytes(bits); e != api.OK || !bytes.Equal(got, b) {
			t.Errorf("Bytes of the bits of %v = %v, %d", b, got, e)
		}
	}
}

// TestP1_1Errors: an element that is no bit is named before the width.
func TestP1_1Errors(t *testing.T) {
	for _, c := range []struct {
		bits string
		want api.Errno
	}{
		{"0", api.ErrWidth},
		{"0000000", api.ErrWidth},
		{"111111111", api.ErrWidth},
		{"00000000000", api.ErrWidth},
		{strings.Repeat("1", 8*2000+7), api.ErrWidth},
		{"2", api.ErrArg},
		{"00000002", api.ErrArg},
		{"20000000", api.ErrArg},
		{"000020000", api.ErrArg},
		{"000000003", api.ErrArg},
	} {
		if got, e := levels.Bytes(bitsOf(c.bits)); e != c.want || got != nil {
			t.Errorf("Bytes of %.20s = %v, %d; expected error %d", c.bits, got, e, c.want)
		}
	}
}

// TestElementsThatAreNoBits: each function of bits refuses all values but 0 and
// 1 in all places, with ErrArg, whatever else is wrong with the bits.
func TestElementsThatAreNoBits(t *testing.T) {
	for _, good := range []string{"0", "00000000", "0111111", "1111111"} {
		for i := range good {
			for x := 2; x < 256; x++ {
				bits := bitsOf(good)
				bits[i] = byte(x)
				for name, f := range map[string]func([]byte) (bool, api.Errno){
					"Bytes":   func(b []byte) (bool, api.Errno) { r, e := levels.Bytes(b); return r == nil, e },
					"Stuff":   func(b []byte) (bool, api.Errno) { r, e := levels.Stuff(b); return r == nil, e },
					"Unstuff": func(b []byte) (bool, api.Errno) { r, e := levels.Unstuff(b); return r == nil, e },
					"Encode":  func(b []byte) (bool, api.Errno) { r, e := levels.Encode(b); return r == nil, e },
				} {
					if none, e := f(bits); e != api.ErrArg || !none {
						t.Errorf("%s of %v: error %d, no result: %t", name, bits, e, none)
					}
				}
			}
		}
	}
}

// TestP1_2Stuff: a bit 0 behind each six bits 1, also at the end.
func TestP1_2Stuff(t *testing.T) {
	for _, c := range []struct{ bits, stuffed string }{
		{"", ""},
		{"0", "0"},
		{"1", "1"},
		{"11111", "11111"},
		{"111111", "1111110"},
		{"1111111", "11111101"},
		{"1111110", "11111100"},
		{"0111110", "0111110"},
		{"01111110", "011111100"},
		{"111110111111", "1111101111110"},
		{"111111111111", "11111101111110"},
		{"1111111111111", "111111011111101"},
		{"1111110111111", "111111001111110"},
		{strings.Repeat("1", 600), strings.Repeat("1111110", 100)},
	} {
		got, e := levels.Stuff(bitsOf(c.bits))
		if e != api.OK || textOf(got) != c.stuffed || !tight(got) {
			t.Errorf("Stuff of %s = %s, %d, capacity %d; expected %s", c.bits, textOf(got), e, cap(got), c.stuffed)
		}
		got, e = levels.Unstuff(bitsOf(c.stuffed))
		if e != api.OK || textOf(got) != c.bits || !tight(got) {
			t.Errorf("Unstuff of %s = %s, %d, capacity %d; expected %s", c.stuffed, textOf(got), e, cap(got), c.bits)
		}
	}
}

// TestP1_2UnstuffErrors: six bits 1 with no bit 0 behind them.
func TestP1_2UnstuffErrors(t *testing.T) {
	for _, c := range []struct {
		bits string
		want api.Errno
	}{
		{"111111", api.ErrForm},
		{"1111111", api.ErrForm},
		{"11111110", api.ErrForm},
		{"0111111", api.ErrForm},
		{"011111110", api.ErrForm},
		{"1111110111111", api.ErrForm},
		{"11111101111111", api.ErrForm},
		{"11111112", api.ErrArg},
		{"2111111", api.ErrArg},
	} {
		if got, e := levels.Unstuff(bitsOf(c.bits)); e != c.want || got != nil {
			t.Errorf("Unstuff of %s = %v, %d; expected error %d", c.bits, got, e, c.want)
		}
	}
}

// TestP1_6Stuffing: Unstuff inverts Stuff, and accepts nothing else; stuffed
// bits never contain seven bits 1.
func TestP1_6Stuffing(t *testing.T) {
	each("01", 16, func(s string) {
		stuffed, e := levels.Stuff(bitsOf(s))
		if e != api.OK || strings.Contains(textOf(stuffed), "1111111") {
			t.Errorf("Stuff of %s = %s, %d", s, textOf(stuffed), e)
		}
		if back, e := levels.Unstuff(stuffed); e != api.OK || textOf(back) != s {
			t.Errorf("Unstuff of %s = %s, %d; expected %s", textOf(stuffed), textOf(back), e, s)
		}
		bits, e := levels.Unstuff(bitsOf(s))
		if e != api.OK {
			if e != api.ErrForm || bits != nil {
				t.Errorf("Unstuff of %s = %v, %d", s, bits, e)
			}
			return
		}
		if again, e := levels.Stuff(bits); e != api.OK || textOf(again) != s {
			t.Errorf("Unstuff accepts %s, but Stuff of %s = %s", s, textOf(bits), textOf(again))
		}
	})
}

// TestP1_3Encode: a bit 0 changes the state, a bit 1 keeps it.
func TestP1_3Encode(t *testing.T) {
	for _, c := range []struct{ bits, states string }{
		{"", ""},
		{"0", "K"},
		{"1", "J"},
		{"0010", "KJJK"},
		{"1010", "JKKJ"},
		{"000000", "KJKJKJ"},
		{"11111111", "JJJJJJJJ"},
		{"011110111", "KKKKKJJJJ"},
	} {
		l, e := levels.Encode(bitsOf(c.bits))
		if e != api.OK || shown(l) != c.states || !tight(l) {
			t.Errorf("Encode of %s = %s, %d, capacity %d", c.bits, shown(l), e, cap(l))
		}
		b, e := levels.Decode(lineOf(c.states))
		if e != api.OK || textOf(b) != c.bits || !tight(b) {
			t.Errorf("Decode of %s = %s, %d, capacity %d", c.states, textOf(b), e, cap(b))
		}
	}
}

// TestP1_3States: the numbers of the states, which other programs rely on.
func TestP1_3States(t *testing.T) {
	if levels.J != 0 || levels.K != 1 || levels.Zero != 2 || levels.MaxPacket != 1027 {
		t.Errorf("J %d, K %d, Zero %d, MaxPacket %d", levels.J, levels.K, levels.Zero, levels.MaxPacket)
	}
}

// TestP1_3DecodeErrors: states that carry no bits, in each place.
func TestP1_3DecodeErrors(t *testing.T) {
	for i := range 4 {
		for x := 2; x < 256; x++ {
			l := lineOf("JKKJ")
			l[i] = levels.State(x)
			if got, e := levels.Decode(l); e != api.ErrForm || got != nil {
				t.Errorf("Decode of %v = %v, %d", l, got, e)
			}
		}
	}
}

// TestP1_6Encoding: Decode and Encode invert each other.
func TestP1_6Encoding(t *testing.T) {
	each("01", 12, func(s string) {
		l, e := levels.Encode(bitsOf(s))
		if e != api.OK || len(l) != len(s) {
			t.Errorf("Encode of %s = %s, %d", s, shown(l), e)
		}
		if back, e := levels.Decode(l); e != api.OK || textOf(back) != s {
			t.Errorf("Decode of %s = %s, %d; expected %s", shown(l), textOf(back), e, s)
		}
	})
	each("JK", 12, func(s string) {
		bits, e := levels.Decode(lineOf(s))
		if e != api.OK {
			t.Errorf("Decode of %s: %d", s, e)
		}
		if back, e := levels.Encode(bits); e != api.OK || shown(back) != s {
			t.Errorf("Encode of %s = %s, %d; expected %s", textOf(bits), shown(back), e, s)
		}
	})
}
