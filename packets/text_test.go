package packets_test

import (
	"strings"
	"testing"

	"plugboard/api"
	"plugboard/packets"
)

// TestP3_3Same: each packet is equal to itself, and to no other of the samples.
func TestP3_3Same(t *testing.T) {
	samples := samplePackets()
	for i, a := range samples {
		for j, b := range samplePackets() {
			if got := packets.Same(a, b); got != (i == j) {
				t.Errorf("Same of %s and %s = %t", shown(a), shown(b), got)
			}
		}
	}
}

// change is a change of one field, with a name for messages.
type change struct {
	name string
	do   func(*packets.Packet)
}

// fieldChanges are changes of each field, which make most packets invalid.
func fieldChanges() []change {
	return []change{
		{"Pid", func(p *packets.Packet) { p.Pid ^= 1 }},
		{"Pid, high", func(p *packets.Packet) { p.Pid ^= 128 }},
		{"Addr", func(p *packets.Packet) { p.Addr ^= 1 }},
		{"Addr, high", func(p *packets.Packet) { p.Addr ^= 128 }},
		{"Endp", func(p *packets.Packet) { p.Endp ^= 1 }},
		{"Endp, high", func(p *packets.Packet) { p.Endp ^= 128 }},
		{"Frame", func(p *packets.Packet) { p.Frame ^= 1 }},
		{"Frame, high", func(p *packets.Packet) { p.Frame ^= 1 << 15 }},
		{"Hub", func(p *packets.Packet) { p.Split.Hub ^= 1 }},
		{"Hub, high", func(p *packets.Packet) { p.Split.Hub ^= 128 }},
		{"Port", func(p *packets.Packet) { p.Split.Port ^= 1 }},
		{"Port, high", func(p *packets.Packet) { p.Split.Port ^= 128 }},
		{"Complete", func(p *packets.Packet) { p.Split.Complete = !p.Split.Complete }},
		{"Low", func(p *packets.Packet) { p.Split.Low = !p.Split.Low }},
		{"Kind", func(p *packets.Packet) { p.Split.Kind ^= 1 }},
		{"Kind, high", func(p *packets.Packet) { p.Split.Kind ^= 128 }},
		{"a byte of data more", func(p *packets.Packet) { p.Data = append(append([]byte{}, p.Data...), 0) }},
		{"another byte of data", func(p *packets.Packet) { p.Data = append([]byte{99}, p.Data...) }},
	}
}

// TestP3_3SameOfAnyFields: packets that differ in one field, whether they have
// an error or not.
func TestP3_3SameOfAnyFields(t *testing.T) {
	full := packets.Packet{
		Pid: 200, Addr: 201, Endp: 202, Frame: 60000, Data: mixed(2000),
		Split: packets.Split{Hub: 203, Port: 204, Complete: true, Low: true, Kind: 205},
	}
	for _, p := range append(samplePackets(), packets.Packet{}, full) {
		for _, c := range fieldChanges() {
			one, other := p, p
			c.do(&one)
			c.do(&other)
			if packets.Same(p, one) || packets.Same(one, p) {
				t.Errorf("Same of %s and of it with another %s", shown(p), c.name)
			}
			if !packets.Same(one, other) {
				t.Errorf("not Same: %s twice", shown(one))
			}
		}
	}
}

// TestP3_3SameData: data is compared by its bytes, wherever they are.
func TestP3_3SameData(t *testing.T) {
	room := append(make([]byte, 0, 10), 1, 2, 3)
	for _, c := range []struct {
		a, b []byte
		want bool
	}{
		{nil, []byte{}, true},
		{nil, []byte{0}, false},
		{[]byte{1, 2, 3}, room, true},
		{[]byte{1, 2, 3}, room[:2], false},
		{[]byte{1, 2, 3}, []byte{1, 2, 4}, false},
		{[]byte{1, 2, 3}, []byte{3, 2, 1}, false},
		{mixed(2000), mixed(2000), true},
		{mixed(2000), mixed(1999), false},
	} {
		for _, pid := range []api.Pid{api.Data0, api.Ack, 0} {
			a, b := data(pid, c.a), data(pid, c.b)
			if packets.Same(a, b) != c.want || packets.Same(b, a) != c.want {
				t.Errorf("Same of data %x and %x is not %t", c.a, c.b, c.want)
			}
		}
	}
}

// TestP3_3Texts: the texts that the chapter lists, and more of each form.
func TestP3_3Texts(t *testing.T) {
	for text, p := range map[string]packets.Packet{
		"setup 21.14":                         token(api.Setup, 21, 14),
		"out 0.0":                             token(api.Out, 0, 0),
		"in 127.15":                           token(api.In, 127, 15),
		"in 1.10":                             token(api.In, 1, 10),
		"ack":                                 {Pid: api.Ack},
		"nak":                                 {Pid: api.Nak},
		"stall":                               {Pid: api.Stall},
		"nyet":                                {Pid: api.Nyet},
		"data0":                               data(api.Data0, nil),
		"data1":                               data(api.Data1, []byte{}),
		"data1 00":                            data(api.Data1, []byte{0}),
		"data0 0123456789abcdef10":            data(api.Data0, []byte{0x01, 0x23, 0x45, 0x67, 0x89, 0xab, 0xcd, 0xef, 0x10}),
		"sof 0":                               frame(0),
		"sof 1":                               frame(1),
		"sof 2047":                            frame(2047),
		"split complete 1.2 bulk":             split(1, true, 2, false, api.Bulk),
		"split start 0.0 control":             split(0, false, 0, false, api.Control),
		"split start 12.3 isochronous":        split(12, false, 3, false, api.Isochronous),
		"split complete 127.127 interrupt":    split(127, true, 127, false, api.Interrupt),
		"split start 7.100 control low":       split(7, false, 100, true, api.Control),
		"split complete 100.7 interrupt low":  split(100, true, 7, true, api.Interrupt),
		"data1 " + strings.Repeat("ff", 1024): data(api.Data1, []byte(strings.Repeat("\xff", 1024))),
	} {
		if got := packets.Text(p); got != text {
			t.Errorf("Text of %s = %q; expected %q", shown(p), got, text)
		}
	}
}

// TestP3_3TextOfErrors: a packet with an error has no text. (So do all others of
// the tests that expect errors of packets.)
func TestP3_3TextOfErrors(t *testing.T) {
	for _, p := range []packets.Packet{
		{}, {Pid: 15}, {Pid: 16}, {Pid: 255}, {Pid: api.Ack, Addr: 1}, token(api.In, 128, 0), token(api.Setup, 0, 16),
		frame(2048), split(128, true, 0, true, 0), split(0, true, 128, true, 0), split(0, true, 0, true, 4), data(api.Data0, mixed(1025)),
	} {
		if got := packets.Text(p); got != "" {
			t.Errorf("Text of %s = %q", shown(p), got)
		}
	}
}
