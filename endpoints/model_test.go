package endpoints_test

import (
	"slices"
	"strconv"
	"strings"
	"testing"

	"plugboard/api"
	"plugboard/endpoints"
	"plugboard/packets"
)

// modelEnd is an endpoint by the definition of the chapter.
type modelEnd struct {
	c              endpoints.Config
	toggle, halted bool
	queue, got     [][]byte
	space          int
}

// model is a set with its endpoints by the definition of the chapter.
type model struct {
	keepers
	ends []*modelEnd
	addr uint8
	used []*modelEnd
	z    *keeper
	// What the set expects: nothing, data or an acknowledgement, behind a token,
	// of an endpoint or (nil) of the Zero.
	expects string
	behind  api.Pid
	of      *modelEnd
}

// newModel returns a model with endpoints of these configurations, all in use.
func newModel(l []endpoints.Config) *model {
	m := &model{addr: 5}
	for _, c := range l {
		m.ends = append(m.ends, &modelEnd{c: c})
	}
	m.used = slices.Clone(m.ends)
	return m
}

func (m *model) offer(i int, b []byte) api.Errno {
	e := m.ends[i]
	if !e.c.In {
		return api.ErrArg
	}
	if len(b) > e.c.Max {
		return api.ErrLimit
	}
	if len(e.queue) == 2 {
		return api.ErrFull
	}
	e.queue = append(e.queue, slices.Clone(b))
	return api.OK
}

func (m *model) room(i, n int) api.Errno {
	if m.ends[i].c.In || n < 0 || n > 4096 {
		return api.ErrArg
	}
	m.ends[i].space = n
	return api.OK
}

func (m *model) taken(i int) [][]byte {
	out := m.ends[i].got
	m.ends[i].got = nil
	return out
}

func (m *model) halt(i int) api.Errno {
	if m.ends[i].c.Kind == api.Isochronous {
		return api.ErrArg
	}
	m.ends[i].halted = true
	return api.OK
}

func (m *model) clear(i int) api.Errno {
	m.ends[i].halted = false
	m.ends[i].toggle = false
	return api.OK
}

func (m *model) address(a uint8) api.Errno {
	if a > 127 {
		return api.ErrArg
	}
	m.addr, m.expects = a, ""
	return api.OK
}

func (m *model) use(l ...int) api.Errno {
	if slices.Min(append(l, 0)) < 0 {
		return api.ErrNil
	}
	var used []*modelEnd
	for _, i := range l {
		for _, other := range used {
			if other.c.Number == m.ends[i].c.Number && other.c.In == m.ends[i].c.In {
				return api.ErrThere
			}
		}
		used = append(used, m.ends[i])
	}
	m.used, m.expects = used, ""
	return api.OK
}

func (m *model) zero(z *keeper) api.Errno {
	if z != nil {
		m.all = append(m.all, z)
	}
	m.z, m.expects = z, ""
	return api.OK
}

// find returns an endpoint in use, or nil.
func (m *model) find(number uint8, in bool) *modelEnd {
	for _, e := range m.used {
		if e.c.Number == number && e.c.In == in {
			return e
		}
	}
	return nil
}

func (m *model) waiting(i int) int               { return len(m.ends[i].queue) }
func (m *model) halted(i int) bool               { return m.ends[i].halted }
func (m *model) found(number uint8, in bool) int { return slices.Index(m.ends, m.find(number, in)) }

// hear hears a packet, by the list of what a set does with each.
func (m *model) hear(p packets.Packet) (packets.Packet, bool) {
	if packets.Check(p) != api.OK {
		return packets.Packet{}, false
	}
	expects, behind, of := m.expects, m.behind, m.of
	m.expects = ""
	isData := p.Pid == api.Data0 || p.Pid == api.Data1
	isToken := p.Pid == api.Out || p.Pid == api.In || p.Pid == api.Setup
	switch {
	case isToken && p.Addr != m.addr:
	case (p.Pid == api.Out || p.Pid == api.Setup) && p.Endp == 0 && m.z != nil:
		m.expects, m.behind, m.of = "data", p.Pid, nil
	case p.Pid == api.In && p.Endp == 0 && m.z != nil:
		answer, ok := m.ask(api.In, p)
		if ok && (answer.Pid == api.Data0 || answer.Pid == api.Data1) {
			m.expects, m.behind, m.of = "ack", api.In, nil
		}
		return answer, ok
	case p.Pid == api.Out && m.find(p.Endp, false) != nil:
		m.expects, m.behind, m.of = "data", api.Out, m.find(p.Endp, false)
	case p.Pid == api.In && m.find(p.Endp, true) != nil:
		e := m.find(p.Endp, true)
		answer := e.answer()
		if answer.Pid != api.Stall && answer.Pid != api.Nak && e.c.Kind != api.Isochronous {
			m.expects, m.behind, m.of = "ack", api.In, e
		}
		return answer, true
	case isData && expects == "data" && of == nil:
		return m.ask(behind, p)
	case isData && expects == "data":
		return of.hearData(p)
	case p.Pid == api.Ack && expects == "ack" && of == nil:
		m.ask(api.In, p)
	case p.Pid == api.Ack && expects == "ack":
		of.queue = of.queue[1:]
		of.toggle = !of.toggle
	}
	return packets.Packet{}, false
}

// ask lets the Zero hear a packet.
func (m *model) ask(token api.Pid, p packets.Packet) (packets.Packet, bool) {
	answer, ok := m.z.Hear(token, p)
	if !ok {
		return packets.Packet{}, false
	}
	return answer, true
}

// answer is what an endpoint with In set answers.
func (e *modelEnd) answer() packets.Packet {
	if e.c.Kind == api.Isochronous {
		if len(e.queue) == 0 {
			return data(api.Data0)
		}
		first := e.queue[0]
		e.queue = e.queue[1:]
		return data(api.Data0, first...)
	}
	if e.halted {
		return hand(api.Stall)
	}
	if len(e.queue) == 0 {
		return hand(api.Nak)
	}
	if e.toggle {
		return data(api.Data1, e.queue[0]...)
	}
	return data(api.Data0, e.queue[0]...)
}

// hearData is what another endpoint does with data.
func (e *modelEnd) hearData(p packets.Packet) (packets.Packet, bool) {
	take := func() {
		e.got = append(e.got, slices.Clone(p.Data))
		e.space--
	}
	if e.c.Kind == api.Isochronous {
		if p.Pid == api.Data0 && len(p.Data) <= e.c.Max && e.space > 0 {
			take()
		}
		return packets.Packet{}, false
	}
	if e.halted {
		return hand(api.Stall), true
	}
	if len(p.Data) > e.c.Max {
		return packets.Packet{}, false
	}
	if (p.Pid == api.Data1) != e.toggle {
		return hand(api.Ack), true
	}
	if e.space == 0 {
		return hand(api.Nak), true
	}
	take()
	e.toggle = !e.toggle
	return hand(api.Ack), true
}

// act is something that is done with a machine. It returns its result as a text.
type act struct {
	name string
	do   func(m machine) string
}

// errorText returns an error as a text.
func errorText(e api.Errno) string { return "error " + strconv.Itoa(int(e)) }

// Acts of each sort; endpoints are numbered as in the machine.
func hear(p packets.Packet) act {
	return act{"hear " + shown(p), func(m machine) string { return answerText(m.hear(p)) }}
}
func offer(i int, b ...byte) act {
	return act{"offer " + strconv.Itoa(i) + " " + listText([][]byte{b}), func(m machine) string { return errorText(m.offer(i, b)) }}
}
func room(i, n int) act {
	return act{"room " + strconv.Itoa(i) + " " + strconv.Itoa(n), func(m machine) string { return errorText(m.room(i, n)) }}
}
func taken(i int) act {
	return act{"taken " + strconv.Itoa(i), func(m machine) string { return listText(m.taken(i)) }}
}
func halt(i int) act {
	return act{"halt " + strconv.Itoa(i), func(m machine) string { return errorText(m.halt(i)) }}
}
func clearing(i int) act {
	return act{"clear " + strconv.Itoa(i), func(m machine) string { return errorText(m.clear(i)) }}
}
func address(a uint8) act {
	return act{"address " + strconv.Itoa(int(a)), func(m machine) string { return errorText(m.address(a)) }}
}
func use(l ...int) act {
	name := "use"
	for _, i := range l {
		name += " " + strconv.Itoa(i)
	}
	return act{name, func(m machine) string { return errorText(m.use(l...)) }}
}

// withZero returns an act that puts a new Zero behind endpoint 0.
func withZero(r reply) act {
	return act{"zero " + answerText(r.packet, true), func(m machine) string { return errorText(m.zero(&keeper{reply: r})) }}
}

// withoutZero removes it.
func withoutZero() act {
	return act{"no zero", func(m machine) string { return errorText(m.zero(nil)) }}
}

// sameState reports whether what can be seen of two machines without changing
// anything is the same.
func sameState(a *bench, b *model) bool {
	for i := range a.ends {
		if a.waiting(i) != b.waiting(i) || a.halted(i) != b.halted(i) {
			return false
		}
	}
	for _, number := range []uint8{0, 1, 2, 15, 16} {
		for _, in := range either {
			if a.found(number, in) != b.found(number, in) {
				return false
			}
		}
	}
	return a.heardSame(&b.keepers)
}

// expectRun compares the results of acts with those of the model, and what can be
// seen behind each, and what all endpoints have taken behind them. It reports
// whether they are the same.
func expectRun(t *testing.T, configs []endpoints.Config, l []act) bool {
	t.Helper()
	b, m := newBench(t, configs), newModel(configs)
	for i := range configs {
		l = append(l[:len(l):len(l)], taken(i))
	}
	for i, a := range l {
		got, want := a.do(b), a.do(m)
		if got != want {
			t.Errorf("%+v: %s: %s; expected %s", configs, namesOf(l[:i+1]), short(got), short(want))
			return false
		}
		if !sameState(b, m) {
			t.Errorf("%+v: %s: another state than expected", configs, namesOf(l[:i+1]))
			return false
		}
	}
	return true
}

// namesOf returns the names of acts.
func namesOf(l []act) string {
	words := make([]string, len(l))
	for i, a := range l {
		words[i] = a.name
	}
	return strings.Join(words, "; ")
}
