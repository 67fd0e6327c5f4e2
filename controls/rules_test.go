package controls_test

import (
	"bytes"
	"math/rand"
	"testing"

	"plugboard/api"
	"plugboard/controls"
	"plugboard/packets"
	"plugboard/transactions"
)

// guarded is memory with more behind it, and what all of it was.
type guarded struct{ whole, was []byte }

// guard lays bytes into new memory.
func guard(b []byte) *guarded {
	whole := append(bytes.Clone(b), "behind it"...)
	return &guarded{whole, bytes.Clone(whole)}
}

// bytes returns the bytes, with spare capacity.
func (g *guarded) bytes() []byte { return g.whole[:len(g.whole)-len("behind it")] }

// expectStays checks that nothing has changed.
func (g *guarded) expectStays(t *testing.T, name string) {
	t.Helper()
	if !bytes.Equal(g.whole, g.was) {
		t.Errorf("%s: the memory of an argument changes", name)
	}
}

// spoil overwrites the bytes of a slice, and what lies behind them.
func spoil(b []byte) {
	for i := range b[:cap(b)] {
		b[:cap(b)][i] ^= 0xff
	}
}

// expectOwn checks that a slice has these bytes, and no spare capacity; then it
// spoils it.
func expectOwn(t *testing.T, name string, got, want []byte) {
	t.Helper()
	expectBytes(t, name, got, want)
	if len(got) != cap(got) {
		t.Errorf("%s: length %d, capacity %d", name, len(got), cap(got))
	}
	spoil(got)
}

// TestR1Split: results of Split are new memory, and Join does not change its bytes.
func TestR1Split(t *testing.T) {
	r := asking(inward, 9)
	first := controls.Split(r)
	second := controls.Split(r)
	expectOwn(t, "Split", first, byteList(r))
	expectOwn(t, "Split again", second, byteList(r))
	for _, n := range []int{0, 7, 8, 9} {
		g := guard(mixed(n, 1))
		controls.Join(g.bytes())
		g.expectStays(t, "Join")
	}
}

// TestR1Func: a function may do with its argument what it likes, and use the memory
// of its result again.
func TestR1Func(t *testing.T) {
	for _, n := range []int{0, 1, 9, 100} {
		mine, its := guard(mixed(n, 1)), guard(mixed(n, 2))
		var kept []byte
		f := controls.Func(func(_ api.Request, out []byte) ([]byte, bool) {
			spoil(out)
			kept = out
			return its.bytes(), true
		})
		in, _ := f.Request(asking(outward, n), mine.bytes())
		mine.expectStays(t, "Request")
		spoil(kept)
		mine.expectStays(t, "Request, later")
		expectOwn(t, "Request", in, mixed(n, 2))
		its.expectStays(t, "the result of the function")
		echo := controls.Func(func(_ api.Request, out []byte) ([]byte, bool) { return out, true })
		in, _ = echo.Request(asking(outward, n), mine.bytes())
		expectOwn(t, "an echo", in, mixed(n, 1))
		mine.expectStays(t, "an echo")
	}
}

// rude is a Handler that spoils what it is called with, and its last result when it
// is called again.
type rude struct {
	was, kept, memory []byte
	length            int
}

// Request returns bytes.
func (h *rude) Request(_ api.Request, out []byte) ([]byte, bool) {
	spoil(h.memory)
	h.was, h.kept = bytes.Clone(out), out
	spoil(out)
	h.memory = mixed(2*h.length, 3)
	return h.memory[:h.length], true
}

// TestR1Hear: Hear neither changes the data of a packet, nor keeps its memory.
func TestR1Hear(t *testing.T) {
	for _, n := range []int{1, 8, 9, 16, 20} {
		h := &rude{length: n}
		z := made(t, 8, h)
		setup := guard(byteList(asking(outward, n)))
		z.Hear(api.Setup, packets.Packet{Pid: api.Data0, Data: setup.bytes()})
		setup.expectStays(t, "Setup")
		spoil(setup.whole)
		want := []byte(nil)
		for i := 0; len(want) < n; i++ {
			b := mixed(min(8, n-len(want)), i)
			want = append(want, b...)
			g := guard(b)
			pid := []api.Pid{api.Data1, api.Data0}[i%2]
			z.Hear(api.Out, packets.Packet{Pid: pid, Data: g.bytes()})
			z.Hear(api.Out, packets.Packet{Pid: pid, Data: g.bytes()})
			g.expectStays(t, "Out")
			spoil(g.whole)
		}
		expect(t, "In", answerText(z.Hear(api.In, token(api.In, 0, 0))), "data1")
		expectBytes(t, "what the Handler was called with", h.was, want)
		// What it has done with that is of no consequence.
		expect(t, "In again", answerText(z.Hear(api.In, token(api.In, 0, 0))), "data1")
		if n := len(h.kept); n != cap(h.kept) {
			t.Errorf("the Handler gets %d bytes, capacity %d", n, cap(h.kept))
		}
	}
}

// TestR1Handler: what a Handler has returned is not changed, and is not kept.
func TestR1Handler(t *testing.T) {
	for _, n := range []int{0, 1, 8, 9, 16, 20, 30} {
		its := guard(mixed(n, 3))
		z := made(t, 8, &keeper{reply: reply{its.bytes(), true}})
		z.Hear(api.Setup, hearSetup(asking(inward, 20)).packet)
		for i, want := range divided(its.was[:n], 20, 8) {
			for range 3 {
				p, ok := z.Hear(api.In, token(api.In, 0, 0))
				if !ok || p.Pid != want.Pid {
					t.Errorf("packet %d of %d bytes: %s", i, n, shown(p))
				}
				expectOwn(t, "a packet", p.Data, want.Data)
			}
			if i == 0 {
				its.expectStays(t, "the result of the Handler")
				spoil(its.whole)
			}
			z.Hear(api.In, hand(api.Ack))
		}
		spoil(its.whole)
		its.expectStays(t, "the result of the Handler, later")
	}
}

// TestR1Start: Start neither changes its bytes, nor keeps their memory; the data of
// transactions are new memory.
func TestR1Start(t *testing.T) {
	for _, n := range []int{1, 8, 9, 16, 20} {
		r := asking(outward, n)
		g := guard(outOf(r))
		x := started(t, r, g.bytes(), 8)
		spoil(g.whole)
		for range 3 {
			try, _ := controls.Next(x)
			expectOwn(t, "the request", try.Data, byteList(r))
		}
		x = controls.Answer(x, done())
		for from := 0; from < n; from += 8 {
			for range 3 {
				try, _ := controls.Next(x)
				expectOwn(t, "a packet", try.Data, outOf(r)[from:min(from+8, n)])
			}
			x = controls.Answer(x, done())
		}
		spoil(g.whole)
		g.expectStays(t, "Start")
	}
}

// TestR1Answer: Answer neither changes the data of an outcome, nor keeps its memory;
// results of End are new memory.
func TestR1Answer(t *testing.T) {
	for _, n := range []int{0, 1, 8, 9, 16, 20} {
		x := controls.Answer(started(t, asking(inward, 20), nil, 8), done())
		for from := 0; from <= n; from += 8 {
			g := guard(mixed(n, 4)[from:min(from+8, n)])
			x = controls.Answer(x, done(g.bytes()...))
			g.expectStays(t, "Answer")
			spoil(g.whole)
		}
		x = controls.Answer(x, done())
		for range 3 {
			b, e := controls.End(x)
			expectError(t, "End", e, api.OK)
			expectOwn(t, "End", b, mixed(n, 4))
		}
	}
}

// TestR1Branches: transfers behind the same one do not depend on each other.
func TestR1Branches(t *testing.T) {
	first := controls.Answer(controls.Answer(started(t, asking(inward, 24), nil, 8), done()), done(mixed(8, 1)...))
	var branches []controls.Transfer
	for i := range 5 {
		branches = append(branches, controls.Answer(controls.Answer(first, done(mixed(i, 10*i)...)), done()))
	}
	for i, x := range branches {
		b, e := controls.End(x)
		expectError(t, "a branch", e, api.OK)
		expectOwn(t, "a branch", b, append(mixed(8, 1), mixed(i, 10*i)...))
	}
	_, e := controls.End(first)
	expectError(t, "the transfer in front of the branches", e, api.ErrState)
}

// TestR3NilIsEmpty: nil and empty bytes are the same argument.
func TestR3NilIsEmpty(t *testing.T) {
	for _, b := range [][]byte{nil, {}, make([]byte, 0, 9)} {
		for _, r := range []api.Request{asking(inward, 0), asking(outward, 0), asking(inward, 9)} {
			_, e := controls.Start(r, b, 8)
			expectError(t, "Start without bytes", e, api.OK)
		}
		_, e := controls.Start(asking(outward, 1), b, 8)
		expectError(t, "Start of a request that writes, without bytes", e, api.ErrWidth)
		_, e = controls.Join(b)
		expectError(t, "Join of nothing", e, api.ErrWidth)
		l := []transactions.Outcome{done(b...), {Result: transactions.Done, Data: b}, {Result: transactions.Done, Data: b}}
		expectOutcomes(t, asking(inward, 9), 8, l)
		expectOutcomes(t, asking(outward, 0), 8, l)
		expectRun(t, 8, reply{b, true}, []act{hearSetup(asking(inward, 9)), {token: api.In, packet: packets.Packet{Pid: api.In, Data: b}}, {token: api.Out, packet: packets.Packet{Pid: api.Data1, Data: b}}})
		k := &keeper{}
		in, ok := controls.Func(func(r api.Request, out []byte) ([]byte, bool) { k.Request(r, out); return b, true }).Request(api.Request{}, b)
		if !ok || len(in) != 0 || !sameCalls(k.calls, []call{{}}) {
			t.Errorf("Request: %v, %t", in, ok)
		}
	}
}

// TestR5Apart: two Zeros, also with one Handler, do not depend on each other.
func TestR5Apart(t *testing.T) {
	k := &keeper{reply: reply{[]byte{1}, true}}
	a, b := made(t, 8, k), made(t, 16, k)
	for _, x := range []act{hearSetup(asking(outward, 0)), hearIn, hearAck, hearSetup(asking(inward, 9))} {
		a.Hear(x.token, x.packet)
	}
	expect(t, "the other Zero", answerText(b.Hear(api.In, token(api.In, 0, 0))), "stall")
	if a.Finished() != 1 || b.Finished() != 0 {
		t.Errorf("%d and %d are finished", a.Finished(), b.Finished())
	}
	b.Reset()
	expect(t, "the first Zero", answerText(a.Hear(api.In, token(api.In, 0, 0))), "data1 01")
}

// caller is a Handler that lets its Zero hear packets while it is called for the
// first time.
type caller struct {
	zero  *controls.Zero
	acts  []act
	calls int
}

// Request performs the acts.
func (c *caller) Request(api.Request, []byte) ([]byte, bool) {
	c.calls++
	for _, a := range c.acts {
		if c.calls > 1 {
			break
		}
		if a.reset {
			c.zero.Reset()
		} else {
			c.zero.Hear(a.token, a.packet)
		}
	}
	return mixed(9, 1), true
}

// TestP1Callers: a Handler may let its Zero hear packets, and is not called twice
// with a request.
func TestP1Callers(t *testing.T) {
	for _, r := range []api.Request{asking(inward, 20), asking(inward, 9), asking(outward, 0), asking(outward, 1)} {
		acts := []act{hearIn, hearAck, resets, hearOut(api.Data1), hearOut(api.Data0, 1), hearSetup(asking(inward, 3))}
		eachRun(4, nil, acts, func(l []act) bool {
			c := &caller{acts: l}
			c.zero = made(t, 8, c)
			for _, a := range []act{hearSetup(r), hearOut(api.Data1, 1), hearIn, hearIn, hearAck, hearIn, hearAck, hearIn, hearOut(api.Data1)} {
				c.zero.Hear(a.token, a.packet)
			}
			most := 1
			for _, a := range l {
				if a.token == api.Setup {
					most++
				}
			}
			if c.calls < 1 || c.calls > most {
				t.Errorf("%s: %d calls, with %s", requestText(r), c.calls, actsText(l))
			}
			return !t.Failed()
		})
	}
}

// script is a source of numbers that are written down.
type script struct{ left []byte }

// Int63 returns the next number, in the bits that math/rand begins with, and 0
// behind the last one.
func (s *script) Int63() int64 {
	if len(s.left) == 0 {
		return 0
	}
	next := s.left[0]
	s.left = s.left[1:]
	return int64(next) << 32
}

// Seed does nothing.
func (s *script) Seed(int64) {}

// FuzzActs: any acts with a Zero, any outcomes of a transfer, and any faults of one
// with a device.
func FuzzActs(f *testing.F) {
	f.Add(uint8(inward), uint16(18), uint16(10), true, []byte{})
	f.Add(uint8(outward), uint16(9), uint16(0), true, []byte("control transfers"))
	f.Add(uint8(inward), uint16(8), uint16(16), false, mixed(200, 3))
	f.Fuzz(func(t *testing.T, typ uint8, length, returned uint16, accepts bool, b []byte) {
		s := &script{left: b}
		source := rand.New(s)
		r, reply := asking(typ, int(length)), reply{mixed(int(returned), 3), accepts}
		acts, outcomes := []act{hearSetup(r)}, []transactions.Outcome(nil)
		for len(s.left) > 0 {
			acts = append(acts, anyAct(source))
			if l := anyOutcome(16); source.Intn(2) == 0 {
				outcomes = append(outcomes, l[source.Intn(len(l))])
			} else {
				outcomes = append(outcomes, done(mixed(16, len(outcomes))...))
			}
		}
		expectRun(t, 16, reply, acts)
		expectOutcomes(t, r, 16, outcomes)
		faults := make([]transactions.Fault, len(b))
		for i, n := range b {
			faults[i] = transactions.Fault(n / 128)
		}
		story := tell(t, r, 16, reply, transactions.NewLine(faults...))
		story.faults = faultsText(faults)
		expectStory(t, story)
	})
}
