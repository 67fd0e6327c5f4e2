package controls_test

import (
	"bytes"
	"strconv"
	"testing"

	"plugboard/api"
	"plugboard/controls"
	"plugboard/transactions"
)

// hostModel is a transfer by the definition of the chapter. It is a value.
type hostModel struct {
	stage  string // setup, data, status or over
	r      api.Request
	out    []byte
	max    int
	data0  bool // the next packet of the data stage is Data0
	nones  int
	sent   int
	got    string
	ending api.Errno
}

// kind returns reads, writes or none, by the data of a request.
func (m hostModel) kind() string {
	switch {
	case m.r.Length == 0:
		return "none"
	case m.r.Type >= 128:
		return "reads"
	}
	return "writes"
}

// next is the table of the chapter.
func (m hostModel) next() (transactions.Try, bool) {
	switch m.stage + " " + m.kind() {
	case "setup reads", "setup writes", "setup none":
		return transactions.Try{What: api.Setup, Data: byteList(m.r)}, true
	case "data reads":
		return transactions.Try{What: api.In, Max: m.max, Toggle: !m.data0}, true
	case "data writes":
		end := m.sent + m.max
		if end > len(m.out) {
			end = len(m.out)
		}
		return transactions.Try{What: api.Out, Data: m.out[m.sent:end], Toggle: !m.data0}, true
	case "status reads":
		return transactions.Try{What: api.Out, Toggle: true}, true
	case "status writes", "status none":
		return transactions.Try{What: api.In, Toggle: true}, true
	}
	return transactions.Try{}, false
}

// over returns the transfer when it is over.
func (m hostModel) over(e api.Errno) hostModel {
	m.stage, m.ending = "over", e
	return m
}

// answer returns the transfer behind an outcome.
func (m hostModel) answer(o transactions.Outcome) hostModel {
	if m.stage == "over" {
		return m
	}
	switch o.Result {
	case transactions.None:
		m.nones++
		if m.nones == 3 {
			return m.over(api.ErrTime)
		}
		return m
	case transactions.Nak, transactions.Again, transactions.Stall, transactions.Babble, transactions.Done:
		m.nones = 0
	}
	switch {
	case o.Result == transactions.Stall:
		return m.over(api.ErrStall)
	case o.Result == transactions.Babble:
		return m.over(api.ErrBabble)
	case o.Result != transactions.Done:
		return m
	}
	return m.done(o.Data)
}

// done returns the transfer behind a transaction that is Done.
func (m hostModel) done(b []byte) hostModel {
	switch m.stage + " " + m.kind() {
	case "setup none":
		m.stage = "status"
	case "setup reads", "setup writes":
		m.stage = "data"
	case "data reads":
		if len(b) > m.max || len(m.got)+len(b) > int(m.r.Length) {
			return m.over(api.ErrBabble)
		}
		m.got += string(b)
		m.data0 = !m.data0
		if len(b) < m.max || len(m.got) == int(m.r.Length) {
			m.stage = "status"
		}
	case "data writes":
		m.sent += m.max
		m.data0 = !m.data0
		if m.sent >= len(m.out) {
			m.stage = "status"
		}
	case "status reads":
		return m.over(api.OK)
	case "status writes", "status none":
		if len(b) > 0 {
			return m.over(api.ErrBabble)
		}
		return m.over(api.OK)
	}
	return m
}

// end returns what a transfer has received, or its error.
func (m hostModel) end() (string, api.Errno) {
	switch {
	case m.stage != "over":
		return "", api.ErrState
	case m.ending != api.OK:
		return "", m.ending
	}
	return m.got, api.OK
}

// sameTry reports whether two transactions are equal.
func sameTry(a, b transactions.Try) bool {
	return a.Addr == b.Addr && a.Endp == b.Endp && a.What == b.What && a.Toggle == b.Toggle && a.Iso == b.Iso && a.Max == b.Max && bytes.Equal(a.Data, b.Data)
}

// pair is a transfer beside the model of it. It is a value.
type pair struct {
	x controls.Transfer
	m hostModel
}

// newPair returns a pair in the setup stage.
func newPair(t *testing.T, r api.Request, max int) pair {
	t.Helper()
	return pair{started(t, r, outOf(r), max), hostModel{stage: "setup", r: r, out: outOf(r), max: max}}
}

// answer returns the pair behind an outcome.
func (p pair) answer(o transactions.Outcome) pair {
	return pair{controls.Answer(p.x, o), p.m.answer(o)}
}

// name returns a name for messages.
func (p pair) name(l []transactions.Outcome) string {
	return requestText(p.m.r) + ", max " + strconv.Itoa(p.m.max) + ", behind " + short(outcomesText(l))
}

// expectSame compares a transfer with the model, behind these outcomes. It reports
// whether they are the same.
func (p pair) expectSame(t *testing.T, l []transactions.Outcome) bool {
	t.Helper()
	try, ok := controls.Next(p.x)
	want, wanted := p.m.next()
	if ok != wanted || !sameTry(try, want) {
		t.Errorf("%s: next is %s; expected %s", p.name(l), short(tryText(try, ok)), short(tryText(want, wanted)))
		return false
	}
	b, e := controls.End(p.x)
	got, ending := p.m.end()
	if string(b) != got || e != ending {
		t.Errorf("%s: %d bytes, error %d; expected %d, error %d", p.name(l), len(b), e, len(got), ending)
		return false
	}
	return true
}

// expectOutcomes compares a transfer with the model, behind each of these outcomes.
func expectOutcomes(t *testing.T, r api.Request, max int, l []transactions.Outcome) pair {
	t.Helper()
	p := newPair(t, r, max)
	for i, o := range l {
		p = p.answer(o)
		if !p.expectSame(t, l[:i+1]) {
			break
		}
	}
	return p
}

// expectTree compares a transfer with the model behind all lists of n of these
// outcomes.
func expectTree(t *testing.T, p pair, n int, l, outcomes []transactions.Outcome) bool {
	t.Helper()
	if !p.expectSame(t, l) {
		return false
	}
	if n == 0 {
		return true
	}
	for _, o := range outcomes {
		if !expectTree(t, p.answer(o), n-1, append(l[:len(l):len(l)], o), outcomes) {
			return false
		}
	}
	// A transfer is a value: what came behind it has not changed it.
	return p.expectSame(t, l)
}
