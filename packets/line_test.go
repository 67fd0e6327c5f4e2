package packets_test

import (
	"slices"
	"testing"

	"plugboard/api"
	"plugboard/levels"
	"plugboard/packets"
)

// ackLine are the states of an acknowledgement, as the chapter on levels lists them.
func ackLine() []levels.State {
	const j, k, zero = levels.J, levels.K, levels.Zero
	return []levels.State{k, j, k, j, k, j, k, k, j, j, k, j, j, k, k, k, zero, zero, j}
}

// TestP3_4Known: an acknowledgement on the line, written out.
func TestP3_4Known(t *testing.T) {
	if l, e := packets.Send(packets.Packet{Pid: api.Ack}); e != api.OK || !slices.Equal(l, ackLine()) || !tight(l) {
		t.Errorf("Send = %v, %d, capacity %d", l, e, cap(l))
	}
	if p, e := packets.Receive(ackLine()); e != api.OK || !equal(p, packets.Packet{Pid: api.Ack}) {
		t.Errorf("Receive = %s, %d", shown(p), e)
	}
}

// TestP3_4States: Send returns the states of the bytes, and Receive the packet.
func TestP3_4States(t *testing.T) {
	expect := func(p packets.Packet) {
		want, e := levels.Send(encoded(p))
		if e != api.OK {
			t.Fatalf("the bytes of %s cannot be sent: %d", shown(p), e)
		}
		if l, e := packets.Send(p); e != api.OK || !slices.Equal(l, want) || !tight(l) {
			t.Errorf("Send of %s: %d states, %d", shown(p), len(l), e)
		}
		if got, e := packets.Receive(want); e != api.OK || !equal(got, p) || !tight(got.Data) {
			t.Errorf("Receive of %s = %s, %d", shown(p), shown(got), e)
		}
	}
	for _, p := range samplePackets() {
		expect(p)
	}
	eachToken(expect)
	eachFrame(expect)
}

// TestP3_4SendErrors: the errors of packets.
func TestP3_4SendErrors(t *testing.T) {
	expectError(t, packets.Packet{}, api.ErrArg)
	expectError(t, token(api.In, 128, 0), api.ErrArg)
	expectError(t, data(api.Data1, mixed(1025)), api.ErrLimit)
}

// stated returns the states of bits behind the sync, stuffed together with it.
func stated(t *testing.T, bits []byte) []levels.State {
	t.Helper()
	stuffed, e := levels.Stuff(append([]byte{0, 0, 0, 0, 0, 0, 0, 1}, bits...))
	if e != api.OK {
		t.Fatalf("Stuff: error %d", e)
	}
	l, e := levels.Encode(stuffed)
	if e != api.OK {
		t.Fatalf("Encode: error %d", e)
	}
	return append(l, levels.Zero, levels.Zero, levels.J)
}

// TestP3_4ReceiveErrors: the errors of layer 1, and those of Decode.
func TestP3_4ReceiveErrors(t *testing.T) {
	ack := ackLine()
	bits := func(b ...byte) []byte { return levels.Bits(b) }
	for _, c := range []struct {
		name string
		line []levels.State
		want api.Errno
	}{
		{"nothing", nil, api.ErrForm},
		{"no end", ack[:len(ack)-1], api.ErrForm},
		{"no sync", ack[1:], api.ErrForm},
		{"a state more", append([]levels.State{levels.J}, ack...), api.ErrForm},
		{"another state", append([]levels.State{7}, ack[1:]...), api.ErrForm},
		{"part of a byte", stated(t, bits(210)[:7]), api.ErrWidth},
		{"no bytes", stated(t, nil), api.ErrArg},
		{"1028 bytes", stated(t, bits(append([]byte{195}, mixed(1027)...)...)), api.ErrLimit},
		{"1027 bytes of no data", stated(t, bits(append([]byte{210}, mixed(1026)...)...)), api.ErrWidth},
		{"no identifier", stated(t, bits(211)), api.ErrForm},
		{"a byte too many", stated(t, bits(210, 0)), api.ErrWidth},
		{"a byte too few", stated(t, bits(45, 21)), api.ErrWidth},
		{"another check", stated(t, bits(45, 21, 238)), api.ErrSum},
		{"another check of data", stated(t, bits(75, 0, 64, 190)), api.ErrSum},
		{"the spare bit", stated(t, bits(append([]byte{120}, bytesOf(five(splitBits(packets.Split{}, "1")))...)...)), api.ErrForm},
		{"none of these", stated(t, bits(45, 21, 239)), api.OK},
	} {
		if p, e := packets.Receive(c.line); e != c.want || none(p) != (c.want != api.OK) {
			t.Errorf("%s: %s, error %d; expected %d", c.name, shown(p), e, c.want)
		}
	}
}
