package frames_test

import (
	"bytes"
	"fmt"
	"math"
	"testing"

	"plugboard/api"
	"plugboard/frames"
	"plugboard/packets"
	"plugboard/transactions"
)

// guarded is memory with more behind it, and what all of it was.
type guarded struct{ whole, was []byte }

// guard lays bytes into new memory.
func guard(b []byte) *guarded {
	whole := append(bytes.Clone(b), "behind it"...)
	return &guarded{whole, bytes.Clone(whole)}
}

// bytes returns the bytes, with spare capacity.
func (g *guarded) bytes() []byte { return g.whole[:len(g.whole)-len("behind it")] }

// expectStays checks that nothing has changed.
func (g *guarded) expectStays(t *testing.T, name string) {
	t.Helper()
	if !bytes.Equal(g.whole, g.was) {
		t.Errorf("%s: the memory of an argument changes", name)
	}
}

// spoil overwrites the bytes of a slice, and what lies behind them.
func spoil(b []byte) {
	for i := range b[:cap(b)] {
		b[:cap(b)][i] ^= 0xff
	}
}

// rude is a device that answers In with memory that it spoils when it hears the next
// packet, and that spoils what it hears.
type rude struct{ memory []byte }

// Hear answers a packet.
func (d *rude) Hear(p packets.Packet) (packets.Packet, bool) {
	spoil(d.memory)
	d.memory = nil
	spoil(p.Data)
	if p.Pid != api.In {
		return hand(api.Ack), true
	}
	d.memory = mixed(6, 2)
	return data(api.Data0, d.memory...), true
}

// spoilTries overwrites transactions.
func spoilTries(l []transactions.Try) {
	for i := range l {
		spoil(l[i].Data)
		l[i] = transactions.Try{Addr: 99, Data: []byte("changed")}
	}
}

// TestR1Arguments: Frame changes neither the list of transactions, nor what lies behind
// it, nor their data, and keeps none of them.
func TestR1Arguments(t *testing.T) {
	for _, s := range busSpeeds {
		for _, budget := range []int{-1, 0, 130, 500, 12000} {
			first, second, third := guard(mixed(1, 1)), guard(mixed(8, 2)), guard(mixed(5, 3))
			whole := []transactions.Try{
				writes(first.bytes()...), reads(6), {What: api.Setup, Data: second.bytes()}, {What: api.In, Data: third.bytes()},
				{What: api.Out, Iso: true, Data: third.bytes()}, writes(77), reads(1),
			}
			was := fmt.Sprint(whole)
			b := newBus(t, s, &rude{}, nil)
			b.Frame(whole[:5], budget)
			expect(t, "the list behind Frame", fmt.Sprint(whole), was)
			for _, g := range []*guarded{first, second, third} {
				g.expectStays(t, fmt.Sprintf("Frame with the budget %d", budget))
			}
			before := stateText(b)
			spoilTries(whole)
			expect(t, "the bus behind its arguments", stateText(b), before)
		}
	}
}

// TestR1Devices: a device may use the memory of its answers again, and change what it
// has heard: results do not change with them.
func TestR1Devices(t *testing.T) {
	for _, s := range busSpeeds {
		d := &rude{}
		b := newBus(t, s, d, nil)
		o, _ := b.Frame([]transactions.Try{reads(6), writes(mixed(4, 5)...), readsIso(6)}, 12000)
		kept := d.memory
		b.Frame(nil, 0)
		spoil(kept)
		expect(t, "the outcomes", fmt.Sprint(o), fmt.Sprintf("[{1 %v} {1 []} {1 %v}]", mixed(6, 2), mixed(6, 2)))
		b.Frame([]transactions.Try{reads(6), writes(mixed(4, 5)...)}, 12000)
		in, out := data(api.Data0, mixed(6, 2)...), data(api.Data0, mixed(4, 5)...)
		number := int(b.Number())
		want := fmt.Sprintf(">sof %d, <ack, >in 0.0, <%s, >ack, <ack, >out 0.0, <ack, >%s, <ack", number, shown(in), shown(out))
		expect(t, "the trace", sentText(b.Trace()), want)
	}
}

// slots returns all data of outcomes and of what was sent, with a name for each.
func slots(o []transactions.Outcome, lists ...[]transactions.Sent) (l [][]byte, names []string) {
	for i, x := range o {
		l, names = append(l, x.Data), append(names, fmt.Sprint("outcome ", i))
	}
	for n, sent := range lists {
		for i, x := range sent {
			l, names = append(l, x.Packet.Data), append(names, fmt.Sprintf("packet %d of trace %d", i, n))
		}
	}
	return l, names
}

// expectOwn checks that the capacity of each slice is its length, and that each has
// memory of its own. It spoils them all.
func expectOwn(t *testing.T, name string, o []transactions.Outcome, lists ...[]transactions.Sent) {
	t.Helper()
	if cap(o) != len(o) {
		t.Errorf("%s: %d outcomes, capacity %d", name, len(o), cap(o))
	}
	for _, sent := range lists {
		if cap(sent) != len(sent) {
			t.Errorf("%s: %d packets, capacity %d", name, len(sent), cap(sent))
		}
	}
	l, names := slots(o, lists...)
	for i, b := range l {
		if cap(b) != len(b) {
			t.Errorf("%s: %s has %d bytes, capacity %d", name, names[i], len(b), cap(b))
		}
		before := make([][]byte, len(l))
		for j := range l {
			before[j] = bytes.Clone(l[j])
		}
		spoil(b)
		for j := range l {
			if j != i && !bytes.Equal(l[j], before[j]) {
				t.Errorf("%s: %s shares memory with %s", name, names[i], names[j])
			}
		}
	}
}

// TestR4NewMemory: results share nothing with each other, with the bus, with the
// arguments, or with the device.
func TestR4NewMemory(t *testing.T) {
	echo := &gadget{}
	echo.reply = func(p packets.Packet) reply {
		if p.Pid == api.In {
			return answer(data(api.Data0, mixed(int(p.Endp)*3, 1)...))
		}
		return answer(p)
	}
	for _, s := range busSpeeds {
		for n := range 14 {
			b := newBus(t, s, echo, nil)
			var list []transactions.Try
			for i := range n {
				list = append(list, []transactions.Try{
					{Endp: uint8(i), What: api.In, Max: 50}, writes(mixed(i*5, i)...), {}, {Endp: 3, What: api.In, Iso: true, Max: 50}, sets(mixed(8, i)...),
				}[i%5])
			}
			was := fmt.Sprint(list)
			o, _ := b.Frame(list, 60000)
			name := fmt.Sprintf("speed %d, %d transactions", s, n)
			before := stateText(b)
			one, other := b.Trace(), b.Trace()
			for i := range one {
				if one[i].Packet.Pid != other[i].Packet.Pid {
					t.Errorf("%s: two traces differ", name)
				}
			}
			expectOwn(t, name, o, one, other)
			for i := range one {
				one[i] = transactions.Sent{Fault: lost}
			}
			for i := range o {
				o[i] = transactions.Outcome{Result: 77}
			}
			expect(t, name+": the bus behind its results", stateText(b), before)
			expect(t, name+": the list behind the results", fmt.Sprint(list), was)
			for _, p := range echo.heard {
				spoil(p.Data)
			}
			echo.heard = nil
			expect(t, name+": the bus behind what was heard", stateText(b), before)
		}
	}
}

// TestR4Stays: results stay as they are in the frames that follow.
func TestR4Stays(t *testing.T) {
	for _, s := range busSpeeds {
		b := newBus(t, s, friendly(), nil)
		var results, texts []string
		var outcomes [][]transactions.Outcome
		var traces [][]transactions.Sent
		for i := range 12 {
			o, _ := b.Frame([]transactions.Try{reads(8), writes(byte(i)), reads(8)}, 200*(i%5))
			outcomes, traces = append(outcomes, o), append(traces, b.Trace())
			results, texts = append(results, fmt.Sprint(o)), append(texts, sentText(b.Trace()))
		}
		for i := range outcomes {
			expect(t, "outcomes of long ago", fmt.Sprint(outcomes[i]), results[i])
			expect(t, "a trace of long ago", sentText(traces[i]), texts[i])
		}
	}
}

// TestR3NilIsEmpty: nil and empty lists and data are the same arguments.
func TestR3NilIsEmpty(t *testing.T) {
	for _, s := range busSpeeds {
		for _, b := range [][]byte{nil, {}, make([]byte, 0, 9)} {
			bus := newBus(t, s, friendly(), nil)
			l := []transactions.Try{{What: api.In, Max: 8, Data: b}, {What: api.Out, Data: b}, {What: api.Setup, Data: b}, {Data: b}}
			expectFrame(t, bus, l, 318, "[{1 [1]} {1 []} {0 []} {0 []}]; 318")
			expectState(t, "a bus", bus, stepOf(s), 0, ">sof 0, >in 0.0, <data0 01, >ack, >out 0.0, >data0, <ack")
		}
		for _, l := range [][]transactions.Try{nil, {}} {
			bus := newBus(t, s, friendly(), nil)
			expectFrame(t, bus, l, 100, "[]; 0")
			expectState(t, "a bus", bus, stepOf(s), 0, ">sof 0")
		}
	}
}

// TestP1Repeated: the same calls have the same results.
func TestP1Repeated(t *testing.T) {
	for _, s := range busSpeeds {
		var texts []string
		for range 2 {
			b := newBus(t, s, friendly(), transactions.NewLine(good, good, lost, good, damaged, lost))
			text := ""
			for _, budget := range around(0, 300, 12000, 60000) {
				text += resultText(b.Frame(append(samples(), wrong()...), budget)) + stateText(b)
			}
			texts = append(texts, text)
		}
		if texts[0] != texts[1] {
			t.Errorf("speed %d: the results differ", s)
		}
	}
}

// TestP1Panics: a device that fails stops a frame, but the bus goes on with the next.
func TestP1Panics(t *testing.T) {
	for _, s := range busSpeeds {
		fails := true
		device := transactions.Func(func(p packets.Packet) (packets.Packet, bool) {
			if fails && p.Pid == api.In {
				panic("the device fails")
			}
			return hand(api.Nak), p.Pid == api.In
		})
		b := newBus(t, s, device, nil)
		func() {
			defer func() { recover() }()
			b.Frame([]transactions.Try{reads(8)}, 500)
		}()
		fails = false
		expectFrame(t, b, []transactions.Try{reads(8)}, 500, "[{2 []}]; 196")
		number := (2*stepOf(s) - 1) / 8
		expectState(t, "behind a device that has failed", b, 2*stepOf(s), uint16(number), fmt.Sprintf(">sof %d, >in 0.0, <nak", number))
	}
}

// TestP1Within: a device may perform frames while it hears a packet: each has its ticks.
func TestP1Within(t *testing.T) {
	for _, s := range busSpeeds {
		var b *frames.Bus
		depth := 0
		var numbers []uint16
		device := transactions.Func(func(p packets.Packet) (packets.Packet, bool) {
			if p.Pid == api.Sof {
				numbers = append(numbers, p.Frame)
			}
			if depth < 20 {
				depth++
				b.Frame([]transactions.Try{reads(8)}, 500)
			}
			return packets.Packet{}, false
		})
		b = newBus(t, s, device, nil)
		b.Frame(nil, 0)
		if b.Ticks() != 21*stepOf(s) || len(numbers) != 21 {
			t.Errorf("speed %d: %d ticks, frames %v", s, b.Ticks(), numbers)
		}
		for i, n := range numbers {
			if int(n) != i*stepOf(s)/8 {
				t.Errorf("speed %d: frame numbers %v", s, numbers)
			}
		}
	}
}

// FuzzFrames: any speeds, transactions, budgets, answers and faults.
func FuzzFrames(f *testing.F) {
	f.Add(uint8(1), uint8(9), uint8(1), uint8(0), 8, 12000, -1, mixed(8, 1), uint8(3), []byte{7}, []byte{0, 0, 1})
	f.Add(uint8(2), uint8(1), uint8(13), uint8(5), 0, math.MaxInt, 840, mixed(64, 1), uint8(2), []byte{}, []byte{1})
	f.Add(uint8(0), uint8(255), uint8(0), uint8(255), -1, math.MinInt, 0, mixed(1025, 1), uint8(10), []byte{1}, []byte{})
	f.Fuzz(func(t *testing.T, s, one, two, flags uint8, most, budget, second int, b []byte, pid uint8, out, wire []byte) {
		speed := api.Speed(s)
		if bus, e := frames.New(speed, nil, nil); (e == api.OK) != (s == 1 || s == 2) || (bus == nil) != (e == api.ErrArg) {
			t.Fatalf("New with the speed %d: error %d", s, e)
		}
		if s != 1 && s != 2 {
			speed = busSpeeds[s%2]
		}
		faults := []transactions.Fault{}
		for _, n := range wire {
			faults = append(faults, transactions.Fault(n))
		}
		device := func() *gadget {
			return replying(answer(data(api.Pid(pid), out...)), reply{data(api.Pid(flags), out...), flags >= 128})
		}
		x := newTwins(t, speed, device, faults)
		l := []transactions.Try{
			{What: api.Pid(one), Toggle: flags&1 != 0, Iso: flags&2 != 0, Max: most, Data: b},
			{What: api.Pid(two), Toggle: flags&4 != 0, Iso: flags&8 != 0, Data: b},
			{Addr: one, Endp: two, What: api.In, Toggle: flags&16 != 0, Iso: flags&32 != 0, Max: most},
			sets(b...), writes(out...), reads(len(b)),
		}
		for range 1 + flags%4 {
			l = append(l, l...)
		}
		for range 3 {
			x.expectFrame(t, "a frame", l, budget)
			x.expectFrame(t, "a frame", l, second)
		}
	})
}
