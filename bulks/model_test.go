package bulks_test

import (
	"testing"

	"plugboard/api"
	"plugboard/bulks"
	"plugboard/transactions"
)

// model is a transfer by the definition of the chapter. It is a value.
type model struct {
	p      bulks.Plan
	list   [][]byte // the packets of what is written
	over   bool
	e      api.Errno
	nones  int
	moved  int // packets
	actual int // bytes
	got    string
}

// begin returns a transfer that has just been started.
func begin(p bulks.Plan) model {
	m := model{p: p}
	if p.In && p.Length == 0 {
		return m.end(api.OK)
	}
	if !p.In {
		m.list = divided(p.Data, p.Max, p.Zero)
	}
	return m
}

// divided returns the packets of bytes.
func divided(b []byte, max int, zero bool) [][]byte {
	if len(b) == 0 {
		return [][]byte{{}}
	}
	var l [][]byte
	for i, x := range b {
		if i%max == 0 {
			l = append(l, nil)
		}
		l[len(l)-1] = append(l[len(l)-1], x)
	}
	if zero && len(b)%max == 0 {
		l = append(l, nil)
	}
	return l
}

// toggle returns the toggle of the next packet.
func (m model) toggle() bool {
	if m.moved%2 == 1 {
		return !m.p.Toggle
	}
	return m.p.Toggle
}

// next returns the next transaction.
func (m model) next() (transactions.Try, bool) {
	switch {
	case m.over:
		return transactions.Try{}, false
	case m.p.In:
		return transactions.Try{Endp: m.p.Endp, What: api.In, Max: m.p.Max, Toggle: m.toggle()}, true
	}
	return transactions.Try{Endp: m.p.Endp, What: api.Out, Data: m.list[m.moved], Toggle: m.toggle()}, true
}

// end returns the transfer when it is over.
func (m model) end(e api.Errno) model {
	m.over, m.e = true, e
	return m
}

// answer returns the transfer behind an outcome.
func (m model) answer(o transactions.Outcome) model {
	if m.over || o.Result < 1 || o.Result > 6 {
		return m
	}
	if o.Result == transactions.None {
		m.nones++
		if m.nones == 3 {
			return m.end(api.ErrTime)
		}
		return m
	}
	m.nones = 0
	if o.Result == transactions.Stall {
		return m.end(api.ErrStall)
	}
	if o.Result == transactions.Babble {
		return m.end(api.ErrBabble)
	}
	if o.Result == transactions.Done && m.p.In {
		return m.received(string(o.Data))
	}
	if o.Result == transactions.Done {
		return m.acknowledged()
	}
	return m
}

// received returns the transfer behind a packet that was read.
func (m model) received(s string) model {
	if len(s) > m.p.Max || len(m.got)+len(s) > m.p.Length {
		return m.end(api.ErrBabble)
	}
	m.got += s
	m.actual = len(m.got)
	m.moved++
	if len(s) < m.p.Max || m.actual == m.p.Length {
		return m.end(api.OK)
	}
	return m
}

// acknowledged returns the transfer behind a packet that was written.
func (m model) acknowledged() model {
	m.actual += len(m.list[m.moved])
	m.moved++
	if m.moved == len(m.list) {
		return m.end(api.OK)
	}
	return m
}

// ending returns how the transfer ended.
func (m model) ending() (bulks.Ending, bool) {
	if !m.over {
		return bulks.Ending{}, false
	}
	return bulks.Ending{Errno: m.e, Data: []byte(m.got), Actual: m.actual}, true
}

// pair is a transfer beside the model of it. It is a value.
type pair struct {
	x bulks.Transfer
	m model
}

// newPair returns a pair that has just been started.
func newPair(t *testing.T, p bulks.Plan) pair {
	t.Helper()
	return pair{started(t, p), begin(p)}
}

// answer returns the pair behind an outcome.
func (p pair) answer(o transactions.Outcome) pair {
	return pair{bulks.Answer(p.x, o), p.m.answer(o)}
}

// expectSame compares a transfer with the model, behind these outcomes. It reports
// whether they are the same.
func (p pair) expectSame(t *testing.T, l []transactions.Outcome) bool {
	t.Helper()
	try, ok := bulks.Next(p.x)
	wanted, there := p.m.next()
	ending, over := bulks.End(p.x)
	wantedEnding, isOver := p.m.ending()
	name := ""
	switch {
	case ok != there || !sameTries(try, wanted):
		name = "next is " + tryText(try, ok) + "; expected " + tryText(wanted, there)
	case over != isOver || ending.Errno != wantedEnding.Errno || ending.Actual != wantedEnding.Actual || string(ending.Data) != string(wantedEnding.Data):
		name = endText(ending, over) + "; expected " + endText(wantedEnding, isOver)
	case bulks.Toggle(p.x) != p.m.toggle():
		name = "the toggle is wrong"
	case bulks.Errors(p.x) != p.m.nones:
		name = "the number of errors is wrong"
	default:
		return true
	}
	t.Errorf("%s, behind %s: %s", planText(p.m.p), outcomesText(l), name)
	return false
}

// expectOutcomes compares a transfer with the model, behind each of these outcomes.
func expectOutcomes(t *testing.T, plan bulks.Plan, l []transactions.Outcome) pair {
	t.Helper()
	p := newPair(t, plan)
	same := p.expectSame(t, nil)
	for i, o := range l {
		if !same {
			break
		}
		p = p.answer(o)
		same = p.expectSame(t, l[:i+1])
	}
	return p
}

// expectTree compares a transfer with the model behind all lists of n of these
// outcomes.
func expectTree(t *testing.T, p pair, n int, l, outcomes []transactions.Outcome) bool {
	t.Helper()
	if !p.expectSame(t, l) {
		return false
	}
	if n == 0 {
		return true
	}
	for _, o := range outcomes {
		if !expectTree(t, p.answer(o), n-1, append(l[:len(l):len(l)], o), outcomes) {
			return false
		}
	}
	// A transfer is a value: what came behind it has not changed it.
	return p.expectSame(t, l)
}
