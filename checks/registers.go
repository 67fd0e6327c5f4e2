package checks

import "math/bits"

// A register stands the way a check does: its lowest bit is that of the highest
// power, which leaves it first. So a check need not be turned round to be sent.

// unsigned are the numbers that hold a register.
type unsigned interface{ uint8 | uint16 }

// behindOne[bit] is the register of five bits behind a bit, if all bits of the
// register were 0 in front of it: x^2 + 1 behind a bit 1.
var behindOne = [2]uint8{0, 0x14}

// behindFour[group] is the register of sixteen bits behind the four bits of the
// group, the lowest one first, if all bits of the register were 0 in front of
// them. (Behind 8, a single bit 1 at the end, it is x^15 + x^2 + 1.)
var behindFour = [16]uint16{
	0x0000, 0xcc01, 0xd801, 0x1400, 0xf001, 0x3c00, 0x2800, 0xe401,
	0xa001, 0x6c00, 0x7800, 0xb401, 0x5000, 0x9c01, 0x8801, 0x4400,
}

// registerBehind returns the register behind the groups of bits that send passes
// to a closure, the bits of a group in the order of a number, the lowest one
// first. behind holds what each group makes of a register whose bits are all 0.
func registerBehind[R unsigned](register R, behind []R, send func(take func(group R))) R {
	lowest := R(len(behind) - 1)
	width := bits.Len(uint(lowest))
	send(func(group R) {
		// Sums modulo 2 do not carry: the bits that leave and those that come
		// say together what is added, and all others just move on.
		register = register>>width ^ behind[(register^group)&lowest]
	})
	return register
}
