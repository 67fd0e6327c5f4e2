package levels

import (
	"slices"

	"plugboard/api"
)

// maxOnes is how many bits 1 may follow each other before a bit 0 is inserted.
// Without it a line would not change its state for as long as bits 1 last, and
// its receiver would lose count of them.
const maxOnes = 6

// Stuff inserts a bit 0 behind each six bits 1. (P1.2)
func Stuff(bits []byte) ([]byte, api.Errno) {
	if !areBits(bits) {
		return nil, api.ErrArg
	}
	return stuffed(bits), api.OK
}

// stuffed returns bits that are 0 and 1 with those that are inserted.
func stuffed(bits []byte) []byte {
	out := make([]byte, 0, len(bits)+len(bits)/maxOnes)
	ones := 0
	for _, bit := range bits {
		out = append(out, bit)
		ones = onesBehind(ones, bit)
		if ones == maxOnes {
			out = append(out, 0)
			ones = 0
		}
	}
	return slices.Clip(out)
}

// Unstuff removes the bits that Stuff inserts. (P1.2)
func Unstuff(bits []byte) ([]byte, api.Errno) {
	if !areBits(bits) {
		return nil, api.ErrArg
	}
	out := make([]byte, 0, len(bits))
	ones := 0
	for _, bit := range bits {
		if ones < maxOnes {
			out = append(out, bit)
		} else if bit == 1 {
			return nil, api.ErrForm
		}
		ones = onesBehind(ones, bit)
	}
	// The bits end where an inserted one is due.
	if ones == maxOnes {
		return nil, api.ErrForm
	}
	return slices.Clip(out), api.OK
}

// onesBehind returns how many bits 1 follow each other up to and including this
// bit, if there are that many in front of it.
func onesBehind(ones int, bit byte) int {
	if bit == 0 {
		return 0
	}
	return ones + 1
}
