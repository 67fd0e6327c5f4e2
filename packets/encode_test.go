package packets_test

import (
	"bytes"
	"testing"

	"plugboard/api"
	"plugboard/packets"
)

// unused returns changes that each make another field than those of the
// identifier not zero: of the least, and of a great value.
func unused(pid api.Pid) []func(*packets.Packet) {
	var out []func(*packets.Packet)
	if pid != api.Out && pid != api.In && pid != api.Setup {
		out = append(out,
			func(p *packets.Packet) { p.Addr = 1 },
			func(p *packets.Packet) { p.Addr = 128 },
			func(p *packets.Packet) { p.Endp = 1 },
			func(p *packets.Packet) { p.Endp = 16 })
	}
	if pid != api.Sof {
		out = append(out,
			func(p *packets.Packet) { p.Frame = 1 },
			func(p *packets.Packet) { p.Frame = 2048 })
	}
	if pid != api.Split {
		out = append(out,
			func(p *packets.Packet) { p.Split.Hub = 1 },
			func(p *packets.Packet) { p.Split.Hub = 128 },
			func(p *packets.Packet) { p.Split.Port = 1 },
			func(p *packets.Packet) { p.Split.Port = 128 },
			func(p *packets.Packet) { p.Split.Complete = true },
			func(p *packets.Packet) { p.Split.Low = true },
			func(p *packets.Packet) { p.Split.Kind = 1 },
			func(p *packets.Packet) { p.Split.Kind = 4 })
	}
	if pid != api.Data0 && pid != api.Data1 {
		for _, n := range []int{1, 1024, 1025} {
			out = append(out, func(p *packets.Packet) { p.Data = make([]byte, n) })
		}
	}
	return out
}

// outOfRange returns changes that each make a field of the identifier too great.
func outOfRange(pid api.Pid) []func(*packets.Packet) {
	var out []func(*packets.Packet)
	switch pid {
	case api.Out, api.In, api.Setup:
		for v := 128; v < 256; v++ {
			out = append(out, func(p *packets.Packet) { p.Addr = uint8(v) })
		}
		for v := 16; v < 256; v++ {
			out = append(out, func(p *packets.Packet) { p.Endp = uint8(v) })
		}
	case api.Sof:
		for _, v := range []uint16{2048, 2049, 4096, 65535} {
			out = append(out, func(p *packets.Packet) { p.Frame = v })
		}
	case api.Split:
		for v := 128; v < 256; v++ {
			out = append(out,
				func(p *packets.Packet) { p.Split.Hub = uint8(v) },
				func(p *packets.Packet) { p.Split.Port = uint8(v) })
		}
		for v := 4; v < 256; v++ {
			out = append(out, func(p *packets.Packet) { p.Split.Kind = api.Kind(v) })
		}
	}
	return out
}

// expectError compares what Check, Encode, Text and Send make of a packet with an error.
func expectError(t *testing.T, p packets.Packet, want api.Errno) {
	t.Helper()
	if e := packets.Check(p); e != want {
		t.Errorf("Check of %s = %d; expected %d", shown(p), e, want)
	}
	if b, e := packets.Encode(p); e != want || b != nil {
		t.Errorf("Encode of %s = %x, %d; expected error %d", shown(p), b, e, want)
	}
	if s := packets.Text(p); s != "" {
		t.Errorf("Text of %s = %q", shown(p), s)
	}
	if l, e := packets.Send(p); e != want || l != nil {
		t.Errorf("Send of %s = %d states, %d; expected error %d", shown(p), len(l), e, want)
	}
}

// expectBytes compares Check, Encode and Decode of a packet without an error
// with its bytes.
func expectBytes(t *testing.T, p packets.Packet, want []byte) {
	t.Helper()
	if e := packets.Check(p); e != api.OK {
		t.Errorf("Check of %s = %d", shown(p), e)
	}
	if b, e := packets.Encode(p); e != api.OK || !bytes.Equal(b, want) || !tight(b) {
		t.Errorf("Encode of %s = %x, %d, capacity %d; expected %x", shown(p), b, e, cap(b), want)
	}
	if got, e := packets.Decode(want); e != api.OK || !equal(got, p) || !tight(got.Data) {
		t.Errorf("Decode of %x = %s, %d; expected %s", want, shown(got), e, shown(p))
	}
}

// TestP3_1Known: the packets that the chapter lists, and some more whose bytes
// are written out.
func TestP3_1Known(t *testing.T) {
	for _, c := range []struct {
		packet packets.Packet
		bytes  []byte
	}{
		{token(api.Setup, 21, 14), []byte{45, 21, 239}},
		{token(api.Out, 1, 0), []byte{225, 1, 232}},
		{frame(1), []byte{165, 1, 232}},
		{split(1, true, 2, false, api.Bulk), []byte{120, 129, 2, 220}},
		{data(api.Data0, nil), []byte{195, 0, 0}},
		{data(api.Data1, []byte{0}), []byte{75, 0, 64, 191}},
		{data(api.Data0, []byte("123456789")), []byte("\xc3123456789\xc8\xb4")},
		{packets.Packet{Pid: api.Ack}, []byte{210}},
		{packets.Packet{Pid: api.Nak}, []byte{90}},
		{packets.Packet{Pid: api.Stall}, []byte{30}},
		{packets.Packet{Pid: api.Nyet}, []byte{150}},
	} {
		expectBytes(t, c.packet, c.bytes)
		if got := encoded(c.packet); !bytes.Equal(got, c.bytes) {
			t.Errorf("the reference makes %x of %s", got, shown(c.packet))
		}
	}
}

// TestP3_1FirstBytes: the first byte of each identifier.
func TestP3_1FirstBytes(t *testing.T) {
	want := map[api.Pid]byte{
		api.Out: 225, api.Ack: 210, api.Data0: 195, api.Sof: 165, api.Nyet: 150, api.Split: 120,
		api.In: 105, api.Nak: 90, api.Data1: 75, api.Setup: 45, api.Stall: 30,
	}
	for _, pid := range identifiers() {
		if b := mustEncode(t, packets.Packet{Pid: pid}); b[0] != want[pid] || first(pid) != want[pid] {
			t.Errorf("the first byte of identifier %d is %d; expected %d", pid, b[0], want[pid])
		}
	}
}

// TestP3_1ByDefinition: the bytes of all tokens and starts of frames, of a split
// with each value of each field, of handshakes, and of data.
func TestP3_1ByDefinition(t *testing.T) {
	expect := func(p packets.Packet) { expectBytes(t, p, encoded(p)) }
	eachToken(expect)
	eachFrame(expect)
	eachOther(expect)
	for v := range 128 {
		for rest := range 16 {
			expect(split(uint8(v), rest&1 == 1, 0, rest&2 == 2, api.Kind(rest>>2)))
			expect(split(0, rest&1 == 1, uint8(v), rest&2 == 2, api.Kind(rest>>2)))
			expect(split(uint8(v), rest&1 == 1, uint8(127-v), rest&2 == 2, api.Kind(rest>>2)))
		}
	}
}

// TestP3_1Limits: data of no bytes, of as many as there may be, and of more.
func TestP3_1Limits(t *testing.T) {
	for _, pid := range datas() {
		for _, n := range []int{0, 1, 1023, 1024} {
			p := data(pid, mixed(n))
			expectBytes(t, p, encoded(p))
		}
		for _, n := range []int{1025, 1026, 1027, 2048, 65536} {
			expectError(t, data(pid, mixed(n)), api.ErrLimit)
		}
	}
}

// TestP3_1Identifiers: each number that is not an identifier, whatever the other
// fields are.
func TestP3_1Identifiers(t *testing.T) {
	valid := map[api.Pid]bool{}
	for _, pid := range identifiers() {
		valid[pid] = true
		if e := packets.Check(packets.Packet{Pid: pid}); e != api.OK {
			t.Errorf("Check of identifier %d = %d", pid, e)
		}
	}
	for n := range 256 {
		if pid := api.Pid(n); !valid[pid] {
			expectError(t, packets.Packet{Pid: pid}, api.ErrArg)
			expectError(t, packets.Packet{Pid: pid, Addr: 1, Endp: 1}, api.ErrArg)
			expectError(t, packets.Packet{Pid: pid, Data: mixed(1025)}, api.ErrArg)
		}
	}
}

// TestP3_1Unused: a field that the identifier does not use is not zero.
func TestP3_1Unused(t *testing.T) {
	for _, p := range samplePackets() {
		for _, spoil := range unused(p.Pid) {
			changed := p
			spoil(&changed)
			expectError(t, changed, api.ErrArg)
		}
	}
}

// TestP3_1OutOfRange: a field is too great, the others having any value. (The
// greatest values that are in range are among the packets of ByDefinition.)
func TestP3_1OutOfRange(t *testing.T) {
	for _, p := range samplePackets() {
		for _, spoil := range outOfRange(p.Pid) {
			changed := p
			spoil(&changed)
			expectError(t, changed, api.ErrArg)
		}
	}
}

// TestP3_1ArgBeforeLimit: too many bytes of data are named behind all other errors.
func TestP3_1ArgBeforeLimit(t *testing.T) {
	for _, pid := range datas() {
		for _, n := range []int{0, 1025, 65536} {
			for _, spoil := range unused(pid) {
				changed := data(pid, mixed(n))
				spoil(&changed)
				expectError(t, changed, api.ErrArg)
			}
		}
	}
}
