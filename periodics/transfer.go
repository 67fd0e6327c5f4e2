package periodics

import (
	"bytes"
	"slices"

	"plugboard/api"
	"plugboard/transactions"
)

// MaxPackets is the number of packets of a transfer at most.
const MaxPackets = 256

// Plan describes an isochronous transfer.
type Plan struct {
	In      bool
	Endp    uint8
	Max     int      // bytes of a packet, 1 to 1024
	Packets [][]byte // OUT
	Many    int      // IN: the number of packets that are asked for
}

// Piece is what became of a packet.
type Piece struct {
	Errno api.Errno // OK, ErrTime (no good packet) or ErrBabble
	Data  []byte    // IN
}

// Transfer is a transfer: a value.
type Transfer struct {
	plan   Plan              // with packets of its own, which never change
	count  int               // of the packets whose transactions are over
	pieces [MaxPackets]Piece // what became of these
}

// Start returns a transfer. (P10.3)
func Start(p Plan) (Transfer, api.Errno) {
	isTooLong := func(packet []byte) bool { return len(packet) > p.Max }
	switch {
	case !isConsistent(p):
		return Transfer{}, api.ErrArg
	case p.size() > MaxPackets || slices.ContainsFunc(p.Packets, isTooLong):
		return Transfer{}, api.ErrLimit
	}
	p.Packets = ownList(p.Packets)
	return Transfer{plan: p}, api.OK
}

// isConsistent reports whether the fields of a plan are in range, and go together,
// whatever limits its packets have.
func isConsistent(p Plan) bool {
	if p.Endp < 1 || p.Endp > api.MaxEndpoint || p.Max < 1 || p.Max > api.MaxData {
		return false
	}
	if p.In {
		return len(p.Packets) == 0 && p.Many >= 1
	}
	return len(p.Packets) > 0 && p.Many == 0
}

// size returns the number of packets of a plan.
func (p *Plan) size() int {
	if p.In {
		return p.Many
	}
	return len(p.Packets)
}

// Next returns the transaction that is attempted next (with the address 0), or false if the transfer is over. (P10.4)
func Next(t Transfer) (transactions.Try, bool) {
	if !t.isUnderWay() {
		return transactions.Try{}, false
	}
	try := transactions.Try{Endp: t.plan.Endp, Iso: true}
	if t.plan.In {
		try.What, try.Max = api.In, t.plan.Max
	} else {
		try.What, try.Data = api.Out, own(t.plan.Packets[t.count])
	}
	return try, true
}

// Answer returns the transfer behind the outcome of this transaction. (P10.4)
func Answer(t Transfer, o transactions.Outcome) Transfer {
	if !t.isUnderWay() {
		return t
	}
	switch o.Result {
	case transactions.Done:
		t.add(t.plan.done(o.Data))
	case transactions.Babble:
		t.add(Piece{Errno: api.ErrBabble})
	case transactions.Nak, transactions.Stall, transactions.None, transactions.Again:
		t.add(Piece{Errno: api.ErrTime})
	}
	return t
}

// End returns what became of the packets, or false as long as the transfer is not over. (P10.4)
func End(t Transfer) ([]Piece, bool) {
	if t.count == 0 || t.isUnderWay() {
		return nil, false
	}
	pieces := make([]Piece, t.count)
	for i, piece := range t.pieces[:t.count] {
		pieces[i] = Piece{Errno: piece.Errno, Data: own(piece.Data)}
	}
	return pieces, true
}

// isUnderWay reports whether a transfer is neither over nor zero.
func (t *Transfer) isUnderWay() bool { return t.count < t.plan.size() }

// add adds what became of the next packet.
func (t *Transfer) add(p Piece) {
	t.pieces[t.count] = p
	t.count++
}

// done returns what became of a packet whose transaction was performed, with the
// data of its outcome, which do not matter if the packet was written.
func (p *Plan) done(b []byte) Piece {
	switch {
	case !p.In:
		return Piece{}
	case len(b) > p.Max:
		return Piece{Errno: api.ErrBabble}
	}
	return Piece{Data: own(b)}
}

// ownList returns packets in memory of their own.
func ownList(l [][]byte) [][]byte {
	list := make([][]byte, len(l))
	for i, packet := range l {
		list[i] = own(packet)
	}
	return list
}

// own returns bytes in memory of their own: each side keeps, and may change, what
// it has.
func own(b []byte) []byte { return slices.Clip(bytes.Clone(b)) }
