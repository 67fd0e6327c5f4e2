package packets_test

import (
	"bytes"
	"slices"
	"testing"

	"plugboard/api"
	"plugboard/packets"
)

// expectRefused: Decode refuses bytes with this error.
func expectRefused(t *testing.T, b []byte, want api.Errno) {
	t.Helper()
	if p, e := packets.Decode(b); e != want || !none(p) {
		t.Errorf("Decode of %x = %s, %d; expected error %d", b, shown(p), e, want)
	}
}

// TestP3_2Examples: the errors that the chapter lists.
func TestP3_2Examples(t *testing.T) {
	expectRefused(t, []byte{210, 0}, api.ErrWidth)
	expectRefused(t, []byte{211}, api.ErrForm)
	expectRefused(t, []byte{45, 21, 238}, api.ErrSum)
}

// TestP3_2FirstBytes: all first bytes, in front of any number of bytes. Exactly
// those of identifiers are accepted, and a first byte is named before a width.
func TestP3_2FirstBytes(t *testing.T) {
	expectRefused(t, nil, api.ErrForm)
	valid := map[byte]bool{}
	for _, pid := range identifiers() {
		valid[first(pid)] = true
	}
	for x := range 256 {
		for _, rest := range []string{"", "\x00", "\x15\xef", "\x00\x00", "\x81\x02\xdc", "\x00\x40\xbf", "123456789\xc8\xb4"} {
			b := append([]byte{byte(x)}, rest...)
			if !valid[byte(x)] {
				expectRefused(t, b, api.ErrForm)
			} else if _, e := packets.Decode(b); e == api.ErrForm {
				t.Errorf("Decode of %x: error %d", b, e)
			}
		}
		if !valid[byte(x)] {
			expectRefused(t, append([]byte{byte(x)}, mixed(1027)...), api.ErrForm)
		}
	}
}

// widths returns the least and the greatest number of bytes behind the first one.
func widths(pid api.Pid) (least, most int) {
	switch pid {
	case api.Out, api.In, api.Setup, api.Sof:
		return 2, 2
	case api.Split:
		return 3, 3
	case api.Data0, api.Data1:
		return 2, 1026
	}
	return 0, 0
}

// TestP3_2Widths: all numbers of bytes for each identifier. The width is named
// before the check, which is wrong in most of them.
func TestP3_2Widths(t *testing.T) {
	for _, pid := range identifiers() {
		least, most := widths(pid)
		for n := range 1100 {
			for _, content := range [][]byte{make([]byte, n), mixed(n)} {
				_, e := packets.Decode(append([]byte{first(pid)}, content...))
				if within := n >= least && n <= most; within == (e == api.ErrWidth) {
					t.Errorf("Decode of identifier %d with %d bytes: error %d", pid, n, e)
				}
			}
		}
	}
}

// TestP3_2OneByteMore: each packet of a fixed width with one byte more, and with
// one byte less, which leaves nothing of a handshake.
func TestP3_2OneByteMore(t *testing.T) {
	for _, p := range samplePackets() {
		if p.Pid == api.Data0 || p.Pid == api.Data1 {
			continue
		}
		b := mustEncode(t, p)
		less := api.ErrWidth
		if len(b) == 1 {
			less = api.ErrForm
		}
		for _, last := range []byte{0, 1, b[len(b)-1], 255} {
			expectRefused(t, append(slices.Clone(b), last), api.ErrWidth)
		}
		expectRefused(t, b[:len(b)-1], less)
	}
}

// TestP3_2DataCutOff: data that lacks bytes at its end, down to fewer than those
// of a check.
func TestP3_2DataCutOff(t *testing.T) {
	for _, pid := range datas() {
		b := mustEncode(t, data(pid, []byte("123456789")))
		expectRefused(t, b[:1], api.ErrWidth)
		expectRefused(t, b[:2], api.ErrWidth)
		for n := 3; n < len(b); n++ {
			expectRefused(t, b[:n], api.ErrSum)
		}
	}
}

// TestP3_2MostDataWithCheck: of protected bytes, those of the most data are
// accepted, and one byte more is refused.
func TestP3_2MostDataWithCheck(t *testing.T) {
	for _, pid := range datas() {
		for n, want := range map[int]api.Errno{1023: api.OK, 1024: api.OK, 1025: api.ErrWidth, 1026: api.ErrWidth, 2000: api.ErrWidth} {
			if _, e := packets.Decode(encoded(data(pid, mixed(n)))); e != want {
				t.Errorf("Decode of %d bytes of data: error %d; expected %d", n, e, want)
			}
		}
	}
}

// TestP3_2NumberSums: of all bytes behind the first one of a token or a start of
// frame, exactly those with their check are accepted.
func TestP3_2NumberSums(t *testing.T) {
	valid := map[[2]byte]bool{}
	for v := range 2048 {
		valid[[2]byte(bytesOf(five(number(v, 11))))] = true
	}
	for _, pid := range append(tokens(), api.Sof) {
		for x := range 65536 {
			b := []byte{first(pid), byte(x), byte(x >> 8)}
			p, e := packets.Decode(b)
			if !valid[[2]byte(b[1:])] {
				expectRefused(t, b, api.ErrSum)
			} else if e != api.OK || !bytes.Equal(encoded(p), b) {
				t.Errorf("Decode of %x = %s, %d", b, shown(p), e)
			}
		}
	}
}

// TestP3_2DataSums: of all last two bytes, exactly one pair is the check.
func TestP3_2DataSums(t *testing.T) {
	for _, pid := range datas() {
		for _, content := range []string{"", "\x07", "a packet"} {
			right := encoded(data(pid, []byte(content)))
			for x := range 65536 {
				b := append([]byte{first(pid)}, content...)
				b = append(b, byte(x), byte(x>>8))
				if !bytes.Equal(b, right) {
					expectRefused(t, b, api.ErrSum)
				} else if p, e := packets.Decode(b); e != api.OK || !equal(p, data(pid, []byte(content))) {
					t.Errorf("Decode of %x = %s, %d", b, shown(p), e)
				}
			}
		}
	}
}

// TestP3_2SpareBit: the bit of a split that is 0; a wrong check is named before it.
func TestP3_2SpareBit(t *testing.T) {
	for _, p := range samplePackets() {
		if p.Pid != api.Split {
			continue
		}
		spare := append([]byte{120}, bytesOf(five(splitBits(p.Split, "1")))...)
		expectRefused(t, spare, api.ErrForm)
		for bit := range 24 {
			wrong := slices.Clone(spare)
			wrong[1+bit/8] ^= 1 << (bit % 8)
			expectRefused(t, wrong, api.ErrSum)
		}
		expectRefused(t, spare[:3], api.ErrWidth)
		expectRefused(t, append(slices.Clone(spare), 0), api.ErrWidth)
	}
}
