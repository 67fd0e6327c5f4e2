package packets_test

import (
	"bytes"
	"slices"
	"strconv"
	"strings"
	"testing"

	"plugboard/api"
	"plugboard/levels"
	"plugboard/packets"
)

// identifiers are all identifiers, as the chapter lists them.
func identifiers() []api.Pid { return []api.Pid{1, 2, 3, 5, 6, 8, 9, 10, 11, 13, 14} }

// The identifiers with each form of content.
func tokens() []api.Pid     { return []api.Pid{api.Out, api.In, api.Setup} }
func handshakes() []api.Pid { return []api.Pid{api.Ack, api.Nak, api.Stall, api.Nyet} }
func datas() []api.Pid      { return []api.Pid{api.Data0, api.Data1} }

// Packets of each form.
func token(pid api.Pid, addr, endp uint8) packets.Packet {
	return packets.Packet{Pid: pid, Addr: addr, Endp: endp}
}
func frame(n uint16) packets.Packet { return packets.Packet{Pid: api.Sof, Frame: n} }
func split(hub uint8, complete bool, port uint8, low bool, kind api.Kind) packets.Packet {
	return packets.Packet{Pid: api.Split, Split: packets.Split{Hub: hub, Complete: complete, Port: port, Low: low, Kind: kind}}
}
func data(pid api.Pid, b []byte) packets.Packet { return packets.Packet{Pid: pid, Data: b} }

// mixed returns n bytes that differ.
func mixed(n int) []byte {
	out := make([]byte, n)
	for i := range out {
		out[i] = byte(i*i*31 + i*7 + 1)
	}
	return out
}

// sampleData are data of packets: none, few, with many bits 1, and the most.
func sampleData() [][]byte {
	return [][]byte{
		nil, {0}, {1}, {0x80}, {0xff}, {0, 0}, {0xff, 0xff}, {0xfc, 0x3f}, []byte("123456789"),
		mixed(8), mixed(64), bytes.Repeat([]byte{0xff}, 64), mixed(1023), mixed(1024), bytes.Repeat([]byte{0xff}, 1024),
	}
}

// eachToken calls f with all tokens.
func eachToken(f func(packets.Packet)) {
	for _, pid := range tokens() {
		for addr := range 128 {
			for endp := range 16 {
				f(token(pid, uint8(addr), uint8(endp)))
			}
		}
	}
}

// eachFrame calls f with all starts of frames.
func eachFrame(f func(packets.Packet)) {
	for n := range 2048 {
		f(frame(uint16(n)))
	}
}

// eachSplit calls f with all splits.
func eachSplit(f func(packets.Packet)) {
	for hub := range 128 {
		for port := range 128 {
			for rest := range 16 {
				f(split(uint8(hub), rest&1 == 1, uint8(port), rest&2 == 2, api.Kind(rest>>2)))
			}
		}
	}
}

// eachOther calls f with all handshakes, and with data.
func eachOther(f func(packets.Packet)) {
	for _, pid := range handshakes() {
		f(packets.Packet{Pid: pid})
	}
	for _, pid := range datas() {
		for _, b := range sampleData() {
			f(data(pid, b))
		}
		for x := range 256 {
			f(data(pid, []byte{byte(x), 0xff}))
			f(data(pid, []byte{byte(x), 0xff, byte(x)}))
		}
	}
}

// samplePackets are some packets of each form.
func samplePackets() []packets.Packet {
	out := []packets.Packet{
		frame(0), frame(1), frame(1000), frame(2047),
		split(0, false, 0, false, api.Control), split(127, true, 127, true, api.Interrupt),
		split(1, true, 2, false, api.Bulk), split(85, false, 42, true, api.Isochronous),
	}
	for _, pid := range tokens() {
		out = append(out, token(pid, 0, 0), token(pid, 127, 15), token(pid, 21, 14), token(pid, 85, 10))
	}
	for _, pid := range handshakes() {
		out = append(out, packets.Packet{Pid: pid})
	}
	for _, pid := range datas() {
		for _, b := range sampleData() {
			out = append(out, data(pid, b))
		}
	}
	return out
}

// sumOf returns the bits of the check of a text of bits, in the order in which
// they are sent, for a polynomial, which is given by its degree and its other
// powers: register[p] is the bit of the power p.
func sumOf(degree int, powers []int, text string) string {
	register := slices.Repeat([]byte{1}, degree)
	for _, c := range text {
		sum := byte(c-'0') ^ register[degree-1]
		register = append([]byte{0}, register[:degree-1]...)
		if sum == 1 {
			for _, p := range powers {
				register[p] ^= 1
			}
		}
	}
	var out strings.Builder
	for i := range degree {
		out.WriteByte('1' - register[degree-1-i])
	}
	return out.String()
}

// five and sixteen return a text of bits with its check behind it.
func five(text string) string    { return text + sumOf(5, []int{2, 0}, text) }
func sixteen(text string) string { return text + sumOf(16, []int{15, 2, 0}, text) }

// number returns the n lowest bits of a number as a text, the lowest one first.
func number(v, n int) string {
	var out strings.Builder
	for i := range n {
		out.WriteByte('0' + byte(v>>i&1))
	}
	return out.String()
}

// bytesOf returns the bytes of a text of bits.
func bytesOf(text string) []byte {
	out := make([]byte, len(text)/8)
	for i, c := range text {
		out[i/8] |= byte(c-'0') << (i % 8)
	}
	return out
}

// truth returns the bit of a bool as a text.
func truth(b bool) string {
	if b {
		return "1"
	}
	return "0"
}

// splitBits returns the bits of a split with any bit in place of the one that is 0.
func splitBits(s packets.Split, spare string) string {
	return number(int(s.Hub), 7) + truth(s.Complete) + number(int(s.Port), 7) + truth(s.Low) + spare + number(int(s.Kind), 2)
}

// first returns the first byte of packets with an identifier.
func first(pid api.Pid) byte { return byte(pid) | ^byte(pid)<<4 }

// encoded returns the bytes of a packet, by the tables of the chapter and
// independently of the package.
func encoded(p packets.Packet) []byte {
	text := ""
	switch p.Pid {
	case api.Out, api.In, api.Setup:
		text = five(number(int(p.Addr), 7) + number(int(p.Endp), 4))
	case api.Sof:
		text = five(number(int(p.Frame), 11))
	case api.Split:
		text = five(splitBits(p.Split, "0"))
	case api.Data0, api.Data1:
		for _, value := range p.Data {
			text += number(int(value), 8)
		}
		text = sixteen(text)
	}
	return append([]byte{first(p.Pid)}, bytesOf(text)...)
}

// mustEncode returns the bytes of a packet.
func mustEncode(t *testing.T, p packets.Packet) []byte {
	t.Helper()
	b, e := packets.Encode(p)
	if e != api.OK {
		t.Fatalf("Encode of %s: error %d", shown(p), e)
	}
	return b
}

// mustSend returns the states of a packet.
func mustSend(t *testing.T, p packets.Packet) []levels.State {
	t.Helper()
	l, e := packets.Send(p)
	if e != api.OK {
		t.Fatalf("Send of %s: error %d", shown(p), e)
	}
	return l
}

// shown returns all fields of a packet, valid or not, for messages.
func shown(p packets.Packet) string {
	out := "pid " + strconv.Itoa(int(p.Pid))
	for _, n := range []int{int(p.Addr), int(p.Endp), int(p.Frame), int(p.Split.Hub), int(p.Split.Port), int(p.Split.Kind)} {
		out += " " + strconv.Itoa(n)
	}
	return out + " " + truth(p.Split.Complete) + truth(p.Split.Low) + " data of " + strconv.Itoa(len(p.Data))
}

// equal reports whether two packets are equal, independently of the package.
func equal(a, b packets.Packet) bool {
	return a.Pid == b.Pid && a.Addr == b.Addr && a.Endp == b.Endp && a.Frame == b.Frame && a.Split == b.Split && string(a.Data) == string(b.Data)
}

// none reports whether a packet is the zero value.
func none(p packets.Packet) bool { return equal(p, packets.Packet{}) }

// tight reports whether the capacity of a slice is its length.
func tight[T any](s []T) bool { return cap(s) == len(s) }
