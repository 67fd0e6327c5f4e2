package bulks

import (
	"slices"

	"plugboard/api"
	"plugboard/transactions"
)

// mostMisses is how many transactions in succession may be without an answer
// until a transfer is over.
const mostMisses = 3

// Plan describes a transfer of a bulk or interrupt pipe.
type Plan struct {
	In     bool
	Endp   uint8
	Max    int    // bytes of a packet, 1 to 1024
	Toggle bool   // of the first packet
	Data   []byte // OUT
	Zero   bool   // OUT: an empty packet behind the last one if that is full
	Length int    // IN: the number of bytes that are asked for
}

// Ending is how a transfer ended.
type Ending struct {
	Errno  api.Errno
	Data   []byte // IN
	Actual int    // the number of bytes received, or acknowledged
}

// Transfer is a transfer: a value.
type Transfer struct {
	in       bool
	endp     uint8
	max      int // 0 in the zero Transfer only
	length   int
	unsent   [][]byte // OUT: the packets that have not been acknowledged
	received *piece   // IN: the last packet, if there is one
	toggle   bool
	actual   int
	misses   int // transactions in succession that were without an answer
	over     bool
	ending   api.Errno // of a transfer that is over
}

// piece is a packet that was received, behind others. Pieces never change, so that
// transfers share them: a copy of all bytes for each packet would take far too long.
type piece struct {
	before *piece
	data   []byte
}

// direction is what a transfer does that reads, or what one does that writes: its
// next transaction, and what follows when that is Done.
type direction struct {
	next func(t Transfer) transactions.Try
	done func(t Transfer, b []byte) Transfer
}

// Start returns a transfer. (P9.1)
func Start(p Plan) (Transfer, api.Errno) {
	switch {
	case !isConsistent(p):
		return Transfer{}, api.ErrArg
	case len(p.Data) > api.MaxTransfer || p.Length > api.MaxTransfer:
		return Transfer{}, api.ErrLimit
	}
	t := Transfer{in: p.In, endp: p.Endp, max: p.Max, length: p.Length, toggle: p.Toggle}
	if !p.In {
		t.unsent = slices.Collect(packetsOf(own(p.Data), p.Max, p.Zero))
	} else if p.Length == 0 {
		return t.end(api.OK), api.OK
	}
	return t, api.OK
}

// isConsistent reports whether the fields of a plan are in range, and go together,
// whatever limits there are.
func isConsistent(p Plan) bool {
	if p.Endp < 1 || p.Endp > api.MaxEndpoint || !isPossible(p.Max) {
		return false
	}
	if p.In {
		return len(p.Data) == 0 && !p.Zero && p.Length >= 0
	}
	return p.Length == 0
}

// Next returns the transaction that is attempted next (with the address 0), or false if the transfer is over. (P9.2)
func Next(t Transfer) (transactions.Try, bool) {
	if !t.isUnderWay() {
		return transactions.Try{}, false
	}
	return t.direction().next(t), true
}

// Answer returns the transfer behind the outcome of this transaction. (P9.2)
func Answer(t Transfer, o transactions.Outcome) Transfer {
	if !t.isUnderWay() {
		return t
	}
	switch o.Result {
	case transactions.None:
		return t.missed()
	case transactions.Nak, transactions.Again:
		return t.answered()
	case transactions.Stall:
		return t.answered().end(api.ErrStall)
	case transactions.Babble:
		return t.answered().end(api.ErrBabble)
	case transactions.Done:
		return t.direction().done(t.answered(), o.Data)
	}
	return t
}

// End returns how the transfer ended, or false as long as it is not over. (P9.3)
func End(t Transfer) (Ending, bool) {
	if !t.over {
		return Ending{}, false
	}
	return Ending{Errno: t.ending, Data: t.data(), Actual: t.actual}, true
}

// Toggle returns the toggle of the next packet of the pipe. (P9.4)
func Toggle(t Transfer) bool { return t.toggle }

// Errors returns the number of attempts without a good answer, in succession. (P9.4)
func Errors(t Transfer) int { return t.misses }

// isUnderWay reports whether a transfer is neither over nor zero.
func (t Transfer) isUnderWay() bool { return t.max != 0 && !t.over }

// direction returns what the transfer does.
func (t Transfer) direction() direction {
	if t.in {
		return direction{next: Transfer.read, done: Transfer.receive}
	}
	return direction{next: Transfer.write, done: Transfer.acknowledge}
}

// read returns the next transaction of a transfer that reads.
func (t Transfer) read() transactions.Try {
	return transactions.Try{Endp: t.endp, What: api.In, Toggle: t.toggle, Max: t.max}
}

// write returns the next transaction of a transfer that writes.
func (t Transfer) write() transactions.Try {
	return transactions.Try{Endp: t.endp, What: api.Out, Toggle: t.toggle, Data: own(t.unsent[0])}
}

// receive goes on behind a packet that was read.
func (t Transfer) receive(b []byte) Transfer {
	if len(b) > t.max || len(b) > t.length-t.actual {
		return t.end(api.ErrBabble)
	}
	t.received = &piece{before: t.received, data: own(b)}
	t = t.moved(len(b))
	if len(b) < t.max || t.actual == t.length {
		return t.end(api.OK)
	}
	return t
}

// acknowledge goes on behind a packet that was written.
func (t Transfer) acknowledge([]byte) Transfer {
	t = t.moved(len(t.unsent[0]))
	t.unsent = t.unsent[1:]
	if len(t.unsent) == 0 {
		return t.end(api.OK)
	}
	return t
}

// moved returns the transfer behind a packet with n bytes that has arrived.
func (t Transfer) moved(n int) Transfer {
	t.actual += n
	t.toggle = !t.toggle
	return t
}

// missed returns the transfer behind a transaction that was without an answer.
func (t Transfer) missed() Transfer {
	t.misses++
	if t.misses == mostMisses {
		return t.end(api.ErrTime)
	}
	return t
}

// answered returns the transfer behind a transaction that was not.
func (t Transfer) answered() Transfer {
	t.misses = 0
	return t
}

// end returns the transfer when it is over.
func (t Transfer) end(e api.Errno) Transfer {
	t.over, t.ending = true, e
	return t
}

// data returns the bytes of all packets that were received, in the order in which
// they came.
func (t Transfer) data() []byte {
	if !t.in {
		return nil
	}
	out := make([]byte, t.actual)
	end := len(out)
	for p := t.received; p != nil; p = p.before {
		end -= len(p.data)
		copy(out[end:], p.data)
	}
	return out
}
