package periodics_test

import (
	"slices"
	"testing"

	"plugboard/api"
	"plugboard/periodics"
	"plugboard/transactions"
)

// model is a transfer by the definition of the chapter: a plan, and the outcomes of
// the transactions behind which the next packet followed. It is a value.
type model struct {
	p periodics.Plan
	l []transactions.Outcome
}

// size returns the number of transactions of the transfer.
func (m model) size() int { return max(m.p.Many, len(m.p.Packets)) }

// next returns the next transaction.
func (m model) next() (transactions.Try, bool) {
	switch {
	case len(m.l) == m.size():
		return transactions.Try{}, false
	case m.p.In:
		return transactions.Try{Endp: m.p.Endp, What: api.In, Iso: true, Max: m.p.Max}, true
	}
	return transactions.Try{Endp: m.p.Endp, What: api.Out, Iso: true, Data: m.p.Packets[len(m.l)]}, true
}

// answer returns the transfer behind an outcome.
func (m model) answer(o transactions.Outcome) model {
	if len(m.l) < m.size() && o.Result >= 1 && o.Result <= 6 {
		m.l = append(slices.Clip(m.l), o)
	}
	return m
}

// end returns what became of the packets.
func (m model) end() ([]periodics.Piece, bool) {
	if len(m.l) == 0 || len(m.l) < m.size() {
		return nil, false
	}
	pieces := make([]periodics.Piece, len(m.l))
	for i, o := range m.l {
		pieces[i] = m.piece(o)
	}
	return pieces, true
}

// piece returns what became of a packet.
func (m model) piece(o transactions.Outcome) periodics.Piece {
	performed := o.Result == transactions.Done
	switch {
	case o.Result == transactions.Babble, performed && m.p.In && len(o.Data) > m.p.Max:
		return periodics.Piece{Errno: api.ErrBabble}
	case performed && m.p.In:
		return periodics.Piece{Data: o.Data}
	case performed:
		return periodics.Piece{}
	}
	return periodics.Piece{Errno: api.ErrTime}
}

// pair is a transfer beside the model of it. It is a value.
type pair struct {
	x periodics.Transfer
	m model
}

// newPair returns a pair that has just been started.
func newPair(t *testing.T, p periodics.Plan) pair {
	t.Helper()
	return pair{started(t, p), model{p: p}}
}

// answer returns the pair behind an outcome.
func (p pair) answer(o transactions.Outcome) pair {
	return pair{periodics.Answer(p.x, o), p.m.answer(o)}
}

// expectSame compares a transfer with the model. It reports whether they are the same.
func (p pair) expectSame(t *testing.T) bool {
	t.Helper()
	got := tryText(periodics.Next(p.x)) + "; " + endText(periodics.End(p.x))
	want := tryText(p.m.next()) + "; " + endText(p.m.end())
	if got == want {
		return true
	}
	expect(t, planText(p.m.p)+", behind "+outcomesText(p.m.l), got, want)
	return false
}

// expectOutcomes compares a transfer with the model, behind each of these outcomes.
func expectOutcomes(t *testing.T, plan periodics.Plan, l []transactions.Outcome) pair {
	t.Helper()
	p := newPair(t, plan)
	same := p.expectSame(t)
	for _, o := range l {
		if !same {
			break
		}
		p = p.answer(o)
		same = p.expectSame(t)
	}
	return p
}

// expectTree compares a transfer with the model behind all lists of n of these
// outcomes. It reports whether all are the same.
func expectTree(t *testing.T, p pair, n int, outcomes []transactions.Outcome) bool {
	t.Helper()
	if !p.expectSame(t) {
		return false
	}
	if n == 0 {
		return true
	}
	for _, o := range outcomes {
		if !expectTree(t, p.answer(o), n-1, outcomes) {
			return false
		}
	}
	return true
}
