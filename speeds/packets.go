package speeds

import "plugboard/api"

// The parts of a packet on the line.
const (
	byteBits = 8
	syncBits = 8
	endBits  = 3
)

// stuffedBits is the number of bits 1 behind which a bit is inserted.
const stuffedBits = 6

// The numbers of bytes of packets. Data has its bytes besides.
const (
	handshakeBytes = 1
	tokenBytes     = 3
	dataBytes      = 3
	splitBytes     = 4
)

// worst returns the bit times that a packet of n bytes lasts at most, for an n
// that is valid.
func worst(n int) int {
	bits := byteBits * n
	// The last bit of the sync is a bit 1, and counts for those in succession.
	inserted := (bits + 1) / stuffedBits
	return syncBits + bits + inserted + endBits
}

// lasting returns the bit times of the packets whose numbers of bytes are passed
// to a closure, each with its gap.
func lasting(send func(packet func(n int))) int {
	total := 0
	send(func(n int) { total += worst(n) + Gap })
	return total
}

// transaction returns the bit times of a transaction, where a bit lasts one.
func transaction(k api.Kind, n int) int {
	return lasting(func(packet func(n int)) {
		packet(tokenBytes)
		packet(dataBytes + n)
		if k != api.Isochronous {
			packet(handshakeBytes)
		}
	})
}

// startSplit returns the bit times of a start split.
func startSplit(k api.Kind, in bool, n int) int {
	return lasting(func(packet func(n int)) {
		packet(splitBytes)
		packet(tokenBytes)
		if !in {
			packet(dataBytes + n)
		}
		// The translator answers at once that it has taken the transaction,
		// but not where periodic transactions have their time anyway.
		if k == api.Control || k == api.Bulk {
			packet(handshakeBytes)
		}
	})
}

// completeSplit returns the bit times of a complete split, if there is such a
// one.
func completeSplit(k api.Kind, in bool, n int) int {
	return lasting(func(packet func(n int)) {
		packet(splitBytes)
		packet(tokenBytes)
		if in {
			packet(dataBytes + n)
		}
		if k != api.Isochronous {
			packet(handshakeBytes)
		}
	})
}
