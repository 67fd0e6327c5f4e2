// Package levels carries bytes over a line of three states (layer 1). See shared/doc/01-levels.md.
package levels

import (
	"slices"

	"plugboard/api"
)

// State is a state of the line.
type State uint8

// The states.
const (
	J State = iota
	K
	Zero
)

// MaxPacket is the number of bytes that a packet has at most.
const MaxPacket = 1027

// byteBits is the number of bits of a byte.
const byteBits = 8

// syncBits are the bits in front of the bytes of a packet.
var syncBits = [8]byte{0, 0, 0, 0, 0, 0, 0, 1}

// endStates are the states behind the bits of a packet.
var endStates = [3]State{Zero, Zero, J}

// Bits returns the bits of bytes, the lowest one of each byte first. (P1.1)
func Bits(b []byte) []byte {
	out := make([]byte, 0, byteBits*len(b))
	for _, value := range b {
		for i := range byteBits {
			out = append(out, value>>i&1)
		}
	}
	return out
}

// Bytes returns the bytes that have these bits. (P1.1)
func Bytes(bits []byte) ([]byte, api.Errno) {
	if !areBits(bits) {
		return nil, api.ErrArg
	}
	if len(bits)%byteBits != 0 {
		return nil, api.ErrWidth
	}
	out := make([]byte, len(bits)/byteBits)
	for i := range len(bits) {
		out[i/byteBits] |= bits[i] << (i % byteBits)
	}
	return out, api.OK
}

// areBits reports whether all elements are 0 or 1.
func areBits(bits []byte) bool {
	for _, bit := range bits {
		if bit > 1 {
			return false
		}
	}
	return true
}

// Encode returns the states of bits: a bit 0 changes the state, a bit 1 keeps it. (P1.3)
func Encode(bits []byte) ([]State, api.Errno) {
	if !areBits(bits) {
		return nil, api.ErrArg
	}
	return encoded(bits), api.OK
}

// encoded returns the states of bits that are 0 and 1.
func encoded(bits []byte) []State {
	out := make([]State, len(bits))
	state := J
	for i := range len(bits) {
		if bits[i] == 0 {
			state = other(state)
		}
		out[i] = state
	}
	return out
}

// other returns the other one of J and K.
func other(s State) State {
	if s == J {
		return K
	}
	return J
}

// Decode returns the bits that are encoded to these states. (P1.3)
func Decode(l []State) ([]byte, api.Errno) {
	out := make([]byte, len(l))
	before := J
	for i := range len(l) {
		if l[i] != J && l[i] != K {
			return nil, api.ErrForm
		}
		if l[i] == before {
			out[i] = 1
		}
		before = l[i]
	}
	return out, api.OK
}

// Send returns the states of a packet. (P1.4)
func Send(b []byte) ([]State, api.Errno) {
	if len(b) == 0 {
		return nil, api.ErrArg
	}
	if len(b) > MaxPacket {
		return nil, api.ErrLimit
	}
	// The sync is stuffed together with the bytes, because its last bit is
	// one of the bits 1 that are counted.
	bits := stuffed(withSync(Bits(b)))
	return withEnd(encoded(bits)), api.OK
}

// withSync returns the bits with the sync in front of them.
func withSync(bits []byte) []byte {
	out := make([]byte, 0, len(syncBits)+len(bits))
	for _, bit := range syncBits {
		out = append(out, bit)
	}
	return append(out, bits...)
}

// withEnd returns the states with the end of a packet behind them.
func withEnd(l []State) []State {
	out := make([]State, 0, len(l)+len(endStates))
	out = append(out, l...)
	for _, state := range endStates {
		out = append(out, state)
	}
	return out
}

// Receive returns the bytes of the packet that has these states. (P1.4)
func Receive(l []State) ([]byte, api.Errno) {
	if !hasEnd(l) {
		return nil, api.ErrForm
	}
	coded, e := Decode(l[:len(l)-len(endStates)])
	if e != api.OK {
		return nil, e
	}
	bits, e := Unstuff(coded)
	if e != api.OK {
		return nil, e
	}
	if !hasSync(bits) {
		return nil, api.ErrForm
	}
	return content(bits[len(syncBits):])
}

// hasEnd reports whether the last states are those of the end of a packet.
func hasEnd(l []State) bool {
	first := len(l) - len(endStates)
	if first < 0 {
		return false
	}
	for i, state := range endStates {
		if l[first+i] != state {
			return false
		}
	}
	return true
}

// hasSync reports whether the bits begin with the sync.
func hasSync(bits []byte) bool {
	if len(bits) < len(syncBits) {
		return false
	}
	for i, bit := range syncBits {
		if bits[i] != bit {
			return false
		}
	}
	return true
}

// content returns the bytes of the bits behind the sync of a packet.
func content(bits []byte) ([]byte, api.Errno) {
	// The width comes first: a packet that is too long, and breaks off within
	// a byte, is refused for its width.
	if len(bits)%byteBits != 0 {
		return nil, api.ErrWidth
	}
	if len(bits) == 0 {
		return nil, api.ErrArg
	}
	if len(bits) > byteBits*MaxPacket {
		return nil, api.ErrLimit
	}
	return Bytes(bits)
}

// Listen returns the packets on a line, and the number of damaged ones. (P1.5)
func Listen(l []State) (packets [][]byte, damaged int) {
	first := 0
listening:
	for first < len(l) {
		if l[first] == J {
			first++
			continue
		}
		for i := first + 1; i < len(l); i++ {
			if l[i] != J || l[i-1] != Zero {
				continue
			}
			if b, e := Receive(l[first : i+1]); e == api.OK {
				packets = append(packets, b)
			} else {
				damaged++
			}
			first = i + 1
			continue listening
		}
		// The line ends within this packet.
		damaged++
		break
	}
	return slices.Clip(packets), damaged
}
