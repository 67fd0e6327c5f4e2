package packets_test

import (
	"bytes"
	"slices"
	"testing"

	"plugboard/api"
	"plugboard/levels"
	"plugboard/packets"
)

// TestR1ArgumentsStay: no function changes its argument, or the memory behind it.
func TestR1ArgumentsStay(t *testing.T) {
	for name, f := range map[string]func(packets.Packet){
		"Check":  func(p packets.Packet) { packets.Check(p) },
		"Encode": func(p packets.Packet) { packets.Encode(p) },
		"Same":   func(p packets.Packet) { packets.Same(p, p) },
		"Text":   func(p packets.Packet) { packets.Text(p) },
		"Send":   func(p packets.Packet) { packets.Send(p) },
	} {
		for _, p := range append(samplePackets(), packets.Packet{Pid: api.Ack, Data: mixed(5)}, data(api.Data0, mixed(1025))) {
			whole := append(bytes.Clone(p.Data), "behind it"...)
			want := bytes.Clone(whole)
			p.Data = whole[:len(p.Data)]
			if f(p); !bytes.Equal(whole, want) {
				t.Errorf("%s changes the data of %s", name, shown(p))
			}
		}
	}
	for _, p := range samplePackets() {
		b := mustEncode(t, p)
		for _, b := range [][]byte{b, b[:len(b)-1], append(bytes.Clone(b), 7)} {
			whole := append(bytes.Clone(b), "behind it"...)
			want := bytes.Clone(whole)
			if packets.Decode(whole[:len(b)]); !bytes.Equal(whole, want) {
				t.Errorf("Decode changes %x to %x", want, whole)
			}
		}
		l := append(mustSend(t, p), 1, 2, 3)
		want := slices.Clone(l)
		if packets.Receive(l[:len(l)-3]); !slices.Equal(l, want) {
			t.Errorf("Receive changes the states of %s", shown(p))
		}
	}
}

// TestR3NilIsEmpty: a nil slice and an empty one are the same argument.
func TestR3NilIsEmpty(t *testing.T) {
	for _, pid := range identifiers() {
		none, empty := data(pid, nil), data(pid, []byte{})
		one, two := mustEncode(t, none), mustEncode(t, empty)
		if !bytes.Equal(one, two) || !packets.Same(none, empty) || packets.Text(none) != packets.Text(empty) {
			t.Errorf("identifier %d: nil and empty data differ: %x, %x", pid, one, two)
		}
	}
	for _, b := range [][]byte{nil, {}} {
		expectRefused(t, b, api.ErrForm)
	}
	for _, l := range [][]levels.State{nil, {}} {
		if p, e := packets.Receive(l); e != api.ErrForm || !none(p) {
			t.Errorf("Receive of no states = %s, %d", shown(p), e)
		}
	}
}

// TestR4NewMemory: a result shares no memory with the argument or with another
// result, and its capacity is its length.
func TestR4NewMemory(t *testing.T) {
	p := data(api.Data1, append(make([]byte, 0, 64), "a packet"...))
	b, l := mustEncode(t, p), mustSend(t, p)
	for name, f := range map[string]func() []byte{
		"Encode":  func() []byte { b, _ := packets.Encode(p); return b },
		"Decode":  func() []byte { p, _ := packets.Decode(b); return p.Data },
		"Receive": func() []byte { p, _ := packets.Receive(l); return p.Data },
	} {
		got, again := f(), f()
		want := bytes.Clone(got)
		if len(got) == 0 || !tight(got) {
			t.Errorf("%s: length %d, capacity %d", name, len(got), cap(got))
		}
		for i := range got {
			got[i] ^= 0xff
		}
		if !bytes.Equal(again, want) || !bytes.Equal(f(), want) || string(p.Data) != "a packet" {
			t.Errorf("%s shares its result", name)
		}
	}
	got := mustSend(t, p)
	for i := range got {
		got[i] = levels.Zero
	}
	if !slices.Equal(mustSend(t, p), l) {
		t.Error("Send shares its result")
	}
}

// TestR4CapacityOfResults: the capacity of each result is its length.
func TestR4CapacityOfResults(t *testing.T) {
	for _, p := range samplePackets() {
		b, l := mustEncode(t, p), mustSend(t, p)
		decoded, _ := packets.Decode(b)
		received, _ := packets.Receive(l)
		if !tight(b) || !tight(l) || !tight(decoded.Data) || !tight(received.Data) {
			t.Errorf("%s: capacities %d, %d, %d, %d", shown(p), cap(b), cap(l), cap(decoded.Data), cap(received.Data))
		}
	}
}

// FuzzBytes: whatever the bytes are, Decode accepts exactly what Encode returns.
func FuzzBytes(f *testing.F) {
	for _, p := range samplePackets() {
		b, _ := packets.Encode(p)
		f.Add(b)
	}
	f.Fuzz(func(t *testing.T, b []byte) {
		p, e := packets.Decode(b)
		if e != api.OK {
			if !none(p) {
				t.Errorf("Decode of %x = %s, %d", b, shown(p), e)
			}
			return
		}
		if again := mustEncode(t, p); !bytes.Equal(again, b) || !bytes.Equal(encoded(p), b) {
			t.Errorf("Decode accepts %x as %s, whose bytes are %x", b, shown(p), again)
		}
	})
}

// FuzzPackets: whatever the fields are, Check, Encode, Text and Send agree.
func FuzzPackets(f *testing.F) {
	for _, p := range samplePackets() {
		f.Add(uint8(p.Pid), p.Addr, p.Endp, p.Frame, p.Split.Hub, p.Split.Port, uint8(p.Split.Kind), p.Split.Complete, p.Split.Low, p.Data)
	}
	f.Fuzz(func(t *testing.T, pid, addr, endp uint8, number uint16, hub, port, kind uint8, complete, low bool, b []byte) {
		p := packets.Packet{
			Pid: api.Pid(pid), Addr: addr, Endp: endp, Frame: number, Data: b,
			Split: packets.Split{Hub: hub, Port: port, Complete: complete, Low: low, Kind: api.Kind(kind)},
		}
		if e := packets.Check(p); e != api.OK {
			expectError(t, p, e)
			return
		}
		expectBytes(t, p, encoded(p))
		if got, e := packets.Receive(mustSend(t, p)); e != api.OK || !equal(got, p) || packets.Text(p) == "" {
			t.Errorf("Receive of %s = %s, %d", shown(p), shown(got), e)
		}
	})
}
